/-
  What the functions of ranks must answer.
-/
import Derived.Test.YtigoniochamjgaaBnkU
namespace Go.Proofs.Ytigoniochamjgaa

set_option linter.unusedVariables false


def IRankNew : Prop := ∀ (g0 B g2 g3 : Int) (n : Nat) (hn : bankN g0 B g2 g3 = (n : Int)) (w : World), Calls Try.prog 21 #[.agg #[.int .i64 g0, .int .i64 B, .int .i64 g2, .int .i64 g3]] w (GivesK n (List.replicate n bk0) 0 w)



def IRankOk : Prop := ∀ (g0 B g2 g3 : Int) (a : Option Addr) (n c : Nat) (l : List Bk) (pw : Int) (v : Bool) (hv : decide (RkOk g0 B g2 g3 l pw) = v) (hl : l.length = n) (h1 : n ≤ 4000000) (hnc : a = none → c = 0) (w : World) (hr : RowB w a l), Calls Try.prog 16 #[.agg #[.int .i64 g0, .int .i64 B, .int .i64 g2, .int .i64 g3], .agg #[.slice a n c, .int .i64 pw]] w (Gives (.bool v) w)



def IAllowed : Prop := ∀ (g0 B g2 g3 : Int) (a : Option Addr) (n c : Nat) (l : List Bk) (pw : Int) (k x y z : Int) (v : Bool) (hv : allowR g0 B g2 g3 l pw k x y z = v) (hl : l.length = n) (h1 : n ≤ 4000000) (hnc : a = none → c = 0) (w : World) (hr : RowB w a l), Calls Try.prog 14 #[.agg #[.int .i64 g0, .int .i64 B, .int .i64 g2, .int .i64 g3], .agg #[.slice a n c, .int .i64 pw], .agg #[.int .i64 k, .int .i64 x, .int .i64 y, .int .i64 z]] w (Gives (.bool v) w)



def IRankAfter : Prop := ∀ (g0 B g2 g3 : Int) (a : Option Addr) (n c : Nat) (l : List Bk) (pw : Int) (k x y z : Int) (v : Bool) (l' : List Bk) (pw' : Int) (hv : allowR g0 B g2 g3 l pw k x y z = v) (hl' : afterL g0 B g2 g3 l pw k x y z = l') (hp' : afterP g0 B g2 g3 l pw k x y z = pw') (hl : l.length = n) (h1 : n ≤ 4000000) (hnc : a = none → c = 0) (w : World) (hr : RowB w a l), Calls Try.prog 13 #[.agg #[.int .i64 g0, .int .i64 B, .int .i64 g2, .int .i64 g3], .agg #[.slice a n c, .int .i64 pw], .agg #[.int .i64 k, .int .i64 x, .int .i64 y, .int .i64 z]] w (GivesA n l' pw' v w)



def IOpenBanks : Prop := ∀ (a : Option Addr) (n c : Nat) (l : List Bk) (pw : Int)  (hl : l.length = n) (h1 : n ≤ 4000000) (hnc : a = none → c = 0) (w : World) (hr : RowB w a l), Calls Try.prog 23 #[.agg #[.slice a n c, .int .i64 pw]] w (GivesI (openF 0 l) w)



def IRowOf : Prop := ∀ (a : Option Addr) (n c : Nat) (l : List Bk) (pw : Int) (x v : Int) (hv : rowN l x = v) (hl : l.length = n) (h1 : n ≤ 4000000) (hnc : a = none → c = 0) (w : World) (hr : RowB w a l), Calls Try.prog 17 #[.agg #[.slice a n c, .int .i64 pw], .int .i64 x] w (Gives (.int .i64 v) w)


end Go.Proofs.Ytigoniochamjgaa
