/-
  FnExactPhasorOf: the law's own walk. No condition.
-/
import Derived.Test.YtcgmffpddahgoaaPhC
namespace Go.Proofs.Ytcgmffpddahgoaa
open Go Go.RowKit

theorem wpList_ccv {P : Program} {ops : Array Oper} {rest : List Oper} {o : Oper} {a : Act} {w : World} {Q : Exit → Act → World → Prop} (hgd : o.guard = none) {src dst : TypeId} {x : Operand} (ho : o.op = .convert src dst x) {cr ci r i : Nat} (hx : a.eval x = .complex .f32 r i)
    (hs : (P.underlying src).isSome = true) (hd : P.underlying dst = some (.complex .f64)) (fr : Fl .f32 cr r) (fi : Fl .f32 ci i)
    (h : ∀ r' i' n, Fl .f64 (fcv .f32 .f64 cr) r' → Fl .f64 (fcv .f32 .f64 ci) i' → wpList P ops Q rest (a.put o.dst (.complex .f64 r' i')) (w.drewN n)) : wpList P ops Q (o :: rest) a w := by
  obtain ⟨r', i', n, hr, f1, f2⟩ := ccv_run w src dst hs hd fr fi
  refine wpList_value hgd ?_ (h r' i' n f1 f2)
  simp [execOp, ho, hx, hr]
set_option maxHeartbeats 1000000 in
theorem sameComplex_any {cr ci a b c d : Nat} (h1 : Fl .f64 cr a) (h2 : Fl .f64 ci b) (h3 : Fl .f64 cr c) (h4 : Fl .f64 ci d) (w : World) : Calls Try.prog 42 #[.complex .f64 a b, .complex .f64 c d] w (RB true w) := by
  go_enter Try.func42, Try.ntmps42
  have tk_a : True := trivial; have tk_b : True := trivial
  go_wp2_with (first | (go_at_call 46; clear tk_a; refine (sameFloat_any h1 h3 _).mono ?_; rintro e w' ⟨rfl, n, rfl⟩) | (go_at_call 46; clear tk_b; refine (sameFloat_any h2 h4 _).mono ?_; rintro e w' ⟨rfl, n, rfl⟩))
  go_ret
  exact RB.any rfl (by repeat (first | exact Drew.refl _ | refine Drew.more ?_))
end Go.Proofs.Ytcgmffpddahgoaa
