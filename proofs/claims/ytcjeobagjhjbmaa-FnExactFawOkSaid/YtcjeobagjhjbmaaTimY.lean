/-
  The walks of the exact statements of chapter 7, as the frames want them.
-/
import Derived.Test.YtcjeobagjhjbmaaTimX
namespace Go.Proofs.Ytcjeobagjhjbmaa
open Go.RowKit

set_option linter.unusedVariables false


theorem exTimingOk_walk (t0 t1 t2 t3 t4 t5 t6 t7 t8 t9 t10 t11 t12 t13 t14 t15 t16 : Int) (w : World) (_ : (Lit.int .i64 t0).wf = true) (_ : (Lit.int .i64 t1).wf = true) (_ : (Lit.int .i64 t2).wf = true) (_ : (Lit.int .i64 t3).wf = true) (_ : (Lit.int .i64 t4).wf = true) (_ : (Lit.int .i64 t5).wf = true) (_ : (Lit.int .i64 t6).wf = true) (_ : (Lit.int .i64 t7).wf = true) (_ : (Lit.int .i64 t8).wf = true) (_ : (Lit.int .i64 t9).wf = true) (_ : (Lit.int .i64 t10).wf = true) (_ : (Lit.int .i64 t11).wf = true) (_ : (Lit.int .i64 t12).wf = true) (_ : (Lit.int .i64 t13).wf = true) (_ : (Lit.int .i64 t14).wf = true) (_ : (Lit.int .i64 t15).wf = true) (_ : (Lit.int .i64 t16).wf = true) :
    Calls Try.prog 6 #[.agg #[.int .i64 t0, .int .i64 t1, .int .i64 t2, .int .i64 t3, .int .i64 t4, .int .i64 t5, .int .i64 t6, .int .i64 t7, .int .i64 t8, .int .i64 t9, .int .i64 t10, .int .i64 t11, .int .i64 t12, .int .i64 t13, .int .i64 t14, .int .i64 t15, .int .i64 t16]] w fun e w' => e = .returned (.bool true) ∧ Below w.heap.size w w' := exTimingOk_is ⟨t0, t1, t2, t3, t4, t5, t6, t7, t8, t9, t10, t11, t12, t13, t14, t15, t16⟩ w



theorem exFastTiming_walk (w : World) :
    Calls Try.prog 7 #[] w fun e w' => e = .returned (.bool true) ∧ Below w.heap.size w w' := exFastTiming_is w



theorem exBankGap_walk (t0 t1 t2 t3 t4 t5 t6 t7 t8 t9 t10 t11 t12 t13 t14 t15 t16 : Int) (a b : Int) (w : World) (_ : (Lit.int .i64 t0).wf = true) (_ : (Lit.int .i64 t1).wf = true) (_ : (Lit.int .i64 t2).wf = true) (_ : (Lit.int .i64 t3).wf = true) (_ : (Lit.int .i64 t4).wf = true) (_ : (Lit.int .i64 t5).wf = true) (_ : (Lit.int .i64 t6).wf = true) (_ : (Lit.int .i64 t7).wf = true) (_ : (Lit.int .i64 t8).wf = true) (_ : (Lit.int .i64 t9).wf = true) (_ : (Lit.int .i64 t10).wf = true) (_ : (Lit.int .i64 t11).wf = true) (_ : (Lit.int .i64 t12).wf = true) (_ : (Lit.int .i64 t13).wf = true) (_ : (Lit.int .i64 t14).wf = true) (_ : (Lit.int .i64 t15).wf = true) (_ : (Lit.int .i64 t16).wf = true) (_ : (Lit.int .i64 a).wf = true) (_ : (Lit.int .i64 b).wf = true) :
    Calls Try.prog 8 #[.agg #[.int .i64 t0, .int .i64 t1, .int .i64 t2, .int .i64 t3, .int .i64 t4, .int .i64 t5, .int .i64 t6, .int .i64 t7, .int .i64 t8, .int .i64 t9, .int .i64 t10, .int .i64 t11, .int .i64 t12, .int .i64 t13, .int .i64 t14, .int .i64 t15, .int .i64 t16], .int .i64 a, .int .i64 b] w fun e w' => e = .returned (.bool true) ∧ Below w.heap.size w w' := exBankGap_is ⟨t0, t1, t2, t3, t4, t5, t6, t7, t8, t9, t10, t11, t12, t13, t14, t15, t16⟩ a b w



theorem exRankGap_walk (t0 t1 t2 t3 t4 t5 t6 t7 t8 t9 t10 t11 t12 t13 t14 t15 t16 : Int) (a b : Int) (n : Bool) (w : World) (_ : (Lit.int .i64 t0).wf = true) (_ : (Lit.int .i64 t1).wf = true) (_ : (Lit.int .i64 t2).wf = true) (_ : (Lit.int .i64 t3).wf = true) (_ : (Lit.int .i64 t4).wf = true) (_ : (Lit.int .i64 t5).wf = true) (_ : (Lit.int .i64 t6).wf = true) (_ : (Lit.int .i64 t7).wf = true) (_ : (Lit.int .i64 t8).wf = true) (_ : (Lit.int .i64 t9).wf = true) (_ : (Lit.int .i64 t10).wf = true) (_ : (Lit.int .i64 t11).wf = true) (_ : (Lit.int .i64 t12).wf = true) (_ : (Lit.int .i64 t13).wf = true) (_ : (Lit.int .i64 t14).wf = true) (_ : (Lit.int .i64 t15).wf = true) (_ : (Lit.int .i64 t16).wf = true) (_ : (Lit.int .i64 a).wf = true) (_ : (Lit.int .i64 b).wf = true) :
    Calls Try.prog 9 #[.agg #[.int .i64 t0, .int .i64 t1, .int .i64 t2, .int .i64 t3, .int .i64 t4, .int .i64 t5, .int .i64 t6, .int .i64 t7, .int .i64 t8, .int .i64 t9, .int .i64 t10, .int .i64 t11, .int .i64 t12, .int .i64 t13, .int .i64 t14, .int .i64 t15, .int .i64 t16], .int .i64 a, .int .i64 b, .bool n] w fun e w' => e = .returned (.bool true) ∧ Below w.heap.size w w' := exRankGap_is ⟨t0, t1, t2, t3, t4, t5, t6, t7, t8, t9, t10, t11, t12, t13, t14, t15, t16⟩ a b n w



theorem exGap_walk (g0 g1 g2 g3 : Int) (t0 t1 t2 t3 t4 t5 t6 t7 t8 t9 t10 t11 t12 t13 t14 t15 t16 : Int) (ka xa ya za kb xb yb zb : Int) (w : World) (_ : (Lit.int .i64 g0).wf = true) (_ : (Lit.int .i64 g1).wf = true) (_ : (Lit.int .i64 g2).wf = true) (_ : (Lit.int .i64 g3).wf = true) (_ : (Lit.int .i64 t0).wf = true) (_ : (Lit.int .i64 t1).wf = true) (_ : (Lit.int .i64 t2).wf = true) (_ : (Lit.int .i64 t3).wf = true) (_ : (Lit.int .i64 t4).wf = true) (_ : (Lit.int .i64 t5).wf = true) (_ : (Lit.int .i64 t6).wf = true) (_ : (Lit.int .i64 t7).wf = true) (_ : (Lit.int .i64 t8).wf = true) (_ : (Lit.int .i64 t9).wf = true) (_ : (Lit.int .i64 t10).wf = true) (_ : (Lit.int .i64 t11).wf = true) (_ : (Lit.int .i64 t12).wf = true) (_ : (Lit.int .i64 t13).wf = true) (_ : (Lit.int .i64 t14).wf = true) (_ : (Lit.int .i64 t15).wf = true) (_ : (Lit.int .i64 t16).wf = true) (_ : (Lit.int .i64 ka).wf = true) (_ : (Lit.int .i64 xa).wf = true) (_ : (Lit.int .i64 ya).wf = true) (_ : (Lit.int .i64 za).wf = true) (_ : (Lit.int .i64 kb).wf = true) (_ : (Lit.int .i64 xb).wf = true) (_ : (Lit.int .i64 yb).wf = true) (_ : (Lit.int .i64 zb).wf = true) :
    Calls Try.prog 10 #[.agg #[.int .i64 g0, .int .i64 g1, .int .i64 g2, .int .i64 g3], .agg #[.int .i64 t0, .int .i64 t1, .int .i64 t2, .int .i64 t3, .int .i64 t4, .int .i64 t5, .int .i64 t6, .int .i64 t7, .int .i64 t8, .int .i64 t9, .int .i64 t10, .int .i64 t11, .int .i64 t12, .int .i64 t13, .int .i64 t14, .int .i64 t15, .int .i64 t16], .agg #[.int .i64 ka, .int .i64 xa, .int .i64 ya, .int .i64 za], .agg #[.int .i64 kb, .int .i64 xb, .int .i64 yb, .int .i64 zb]] w fun e w' => e = .returned (.bool true) ∧ Below w.heap.size w w' := exGap_is ⟨t0, t1, t2, t3, t4, t5, t6, t7, t8, t9, t10, t11, t12, t13, t14, t15, t16⟩ g0 g1 g2 g3 ka xa ya za kb xb yb zb w



theorem exFawOk_walk (t0 t1 t2 t3 t4 t5 t6 t7 t8 t9 t10 t11 t12 t13 t14 t15 t16 : Int) (a : Option Addr) (len cap : Nat) (z : List Int) (w : World) (_ : (Lit.int .i64 t0).wf = true) (_ : (Lit.int .i64 t1).wf = true) (_ : (Lit.int .i64 t2).wf = true) (_ : (Lit.int .i64 t3).wf = true) (_ : (Lit.int .i64 t4).wf = true) (_ : (Lit.int .i64 t5).wf = true) (_ : (Lit.int .i64 t6).wf = true) (_ : (Lit.int .i64 t7).wf = true) (_ : (Lit.int .i64 t8).wf = true) (_ : (Lit.int .i64 t9).wf = true) (_ : (Lit.int .i64 t10).wf = true) (_ : (Lit.int .i64 t11).wf = true) (_ : (Lit.int .i64 t12).wf = true) (_ : (Lit.int .i64 t13).wf = true) (_ : (Lit.int .i64 t14).wf = true) (_ : (Lit.int .i64 t15).wf = true) (_ : (Lit.int .i64 t16).wf = true) (hr : IsRow .i64 w a len cap z) :
    Calls Try.prog 11 #[.agg #[.int .i64 t0, .int .i64 t1, .int .i64 t2, .int .i64 t3, .int .i64 t4, .int .i64 t5, .int .i64 t6, .int .i64 t7, .int .i64 t8, .int .i64 t9, .int .i64 t10, .int .i64 t11, .int .i64 t12, .int .i64 t13, .int .i64 t14, .int .i64 t15, .int .i64 t16], .slice a len cap] w fun e w' => e = .returned (.bool true) ∧ Below w.heap.size w w' := exFawOk_is ⟨t0, t1, t2, t3, t4, t5, t6, t7, t8, t9, t10, t11, t12, t13, t14, t15, t16⟩ a len cap (z.take len) (isRow_row hr).2 w (isRow_row hr).1


end Go.Proofs.Ytcjeobagjhjbmaa
