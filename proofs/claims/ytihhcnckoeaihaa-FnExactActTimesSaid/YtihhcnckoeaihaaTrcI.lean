/-
  What the functions of traces must answer.
-/
import Derived.Test.YtihhcnckoeaihaaTrcV
namespace Go.Proofs.Ytihhcnckoeaihaa

set_option linter.unusedVariables false

def IFault : Prop := ∀ (t : Tm) (g0 B g2 g3 : Int) (a : Option Addr) (n c : Nat) (L : List Ev) (N : Nat) (hN : bankN g0 B g2 g3 = (N : Int)) (v : Int × Int) (hv : traceF g0 B g2 g3 t N L = v) (hl : L.length = n) (h1 : n ≤ 3000000) (hc : n ≤ c) (hnc : a = none → c = 0) (w : World) (hr : evK.Row w a L), Calls Try.prog 11 #[.agg #[.int .i64 g0, .int .i64 B, .int .i64 g2, .int .i64 g3], .agg #[.int .i64 t.rcd, .int .i64 t.rp, .int .i64 t.ras, .int .i64 t.rrds, .int .i64 t.rrdl, .int .i64 t.faw, .int .i64 t.ccds, .int .i64 t.ccdl, .int .i64 t.rtp, .int .i64 t.wr, .int .i64 t.wtrs, .int .i64 t.wtrl, .int .i64 t.rtw, .int .i64 t.rfc, .int .i64 t.cke, .int .i64 t.xp, .int .i64 t.xs], .slice a n c] w (Gives2 v w)

def IEnd : Prop := ∀ (g0 B g2 g3 : Int) (a : Option Addr) (n c : Nat) (L : List Ev) (N : Nat) (hN : bankN g0 B g2 g3 = (N : Int)) (n' : Nat) (l' : List Bk) (pw' : Int) (v : Bool) (hn' : l'.length = n') (hl' : EndL g0 B g2 g3 N L = l') (hp' : EndP g0 B g2 g3 N L = pw') (hv : (endOk g0 B g2 g3 N L && decide (GeoOk g0 B g2 g3)) = v) (hl : L.length = n) (h1 : n ≤ 3000000) (hc : n ≤ c) (hnc : a = none → c = 0) (w : World) (hr : evK.Row w a L), Calls Try.prog 14 #[.agg #[.int .i64 g0, .int .i64 B, .int .i64 g2, .int .i64 g3], .slice a n c] w (GivesA n' l' pw' v w)

def IActs : Prop := ∀  (a : Option Addr) (n c : Nat) (L : List Ev)  (hl : L.length = n) (h1 : n ≤ 3000000) (hc : n ≤ c) (hnc : a = none → c = 0) (w : World) (hr : evK.Row w a L), Calls Try.prog 20 #[.slice a n c] w (GivesI (actsT L) w)

end Go.Proofs.Ytihhcnckoeaihaa
