/-
  SumNumbers and DotNumbers, of the program and of its model, compute the same Lean functions; their exact laws. No condition.
-/
import Derived.Test.YtcgakdgfmhkpjaaDoorSl
import Derived.Deep.RegionWith
namespace Go.Proofs.YtcgakdgfmhkpjaaDoor
open Go Go.RowKit

def sumN (xs : List Nat) : Nat → Nat
  | 0 => 0
  | m + 1 => fop .add .f32 (sumN xs m) (nrm .f32 (xs.getD m 0))
def Wf (xs : List Nat) : Prop := ∀ x ∈ xs, (Lit.float .f32 x).wf = true
theorem Wf.at {xs : List Nat} (h : Wf xs) {m : Nat} (hm : m < xs.length) : Fl .f32 (nrm .f32 (xs.getD m 0)) (xs[m]'hm) := by
  have e : xs.getD m 0 = xs[m]'hm := by simp [List.getD, hm]
  rw [e]
  exact Fl.own (h _ (List.getElem_mem hm))
theorem zero32 : Fl .f32 0 0 := Fl.not (by decide +kernel) (by decide +kernel)
theorem FRow.drew {w : World} {a : Option Addr} {xs : List Nat} (h : FRow w a xs) (q : Nat) : FRow (w.drewN q) a xs := fun i hi => h i hi
theorem wide_all (P : Program) {src dst : TypeId} {c x : Nat} (hs : (P.underlying src).isSome = true) (hd : P.underlying dst = some (.float .f64)) (hx : Fl .f32 c x) :
    ∃ R N : World → Nat, (∀ w, (convert src dst (.float .f32 x)).run P w = .ok (.float .f64 (R w)) (w.drewN (N w))) ∧ ∀ w, Fl .f64 (fcv .f32 .f64 c) (R w) := by
  have h : ∀ w : World, ∃ rn : Nat × Nat, (convert src dst (.float .f32 x)).run P w = .ok (.float .f64 rn.1) (w.drewN rn.2) ∧ Fl .f64 (fcv .f32 .f64 c) rn.1 := by
    intro w
    obtain ⟨r, n, h1, h2⟩ := fcv_run (w := w) src dst hs hd (by decide) hx (fits_wide c)
    exact ⟨(r, n), h1, h2⟩
  exact ⟨fun w => (Classical.choose (h w)).1, fun w => (Classical.choose (h w)).2, fun w => (Classical.choose_spec (h w)).1, fun w => (Classical.choose_spec (h w)).2⟩
set_option maxHeartbeats 4000000 in
theorem eqF_any {a b : Option Addr} {cap cap2 n : Nat} {xs : List Nat} (w : World) (hn : n = xs.length) (ha : FRow w a xs) (hb : FRow w b xs) (hw : Wf xs) (hl : xs.length ≤ 1048576) : Calls Tryd.prog 54 #[.slice a n cap, .slice b n cap2] w (RB true w) := by
  subst hn
  have HA := Hf.mk ha
  have HB := Hf.mk hb
  have HW := Hf.mk hw
  clear ha hb hw
  go_enter Tryd.func54, Tryd.ntmps54
  go_wp2
  go_loopw [5] (fun i wr => ∃ m : Nat, m ≤ xs.length ∧ i = .int .i64 m ∧ Drew w wr) (fun i _ => xs.length - (intOf i).toNat)
  case atStart => exact ⟨0, by omega, rfl, (by repeat (first | exact Drew.refl _ | refine Drew.more ?_))⟩
  case round =>
    obtain ⟨m, hm, rfl, q, rfl⟩ := hrel
    by_cases hlt : m < xs.length
    · obtain ⟨p, rfl, hcell⟩ := HA.out m hlt
      obtain ⟨p2, rfl, hcell2⟩ := HB.out m hlt
      have hD1 : ∀ (W : World) (x : Addr), W.drew.cell? x = W.cell? x := fun _ _ => rfl
      have hD2 : ∀ (W : World) (n : Nat) (x : Addr), (W.drewN n).cell? x = W.cell? x := fun _ _ _ => rfl
      have hx := HW.out.at hlt
      obtain ⟨R, N, hcv, hfl⟩ := wide_all Tryd.prog (src := 58) (dst := 115) (by kernel_rfl) Tryd.underlying115 hx
      have HF := Hf.mk hfl
      clear hfl
      go_wp2
      go_region_with (go_at_call 77; refine (sameFloat_any (HF.out _) (HF.out _) _).mono ?_; rintro e w' ⟨rfl, n, rfl⟩)
      all_goals go_wp2
      all_goals go_roundw
      all_goals first | exact ⟨m + 1, by omega, i_ext2 (by omega), ⟨_, rfl⟩⟩ | (simp [intOf]; omega)
    · obtain rfl : m = xs.length := by omega
      go_wp2
      go_ret
      exact RB.any rfl (by repeat (first | exact Drew.refl _ | refine Drew.more ?_))
end Go.Proofs.YtcgakdgfmhkpjaaDoor
