/-
  Grids of the heights that a function tells, of the program and of the model. No premise beyond those named.
-/
import Derived.Test.YtcgmffpddahgoaaIdx
namespace Go.Proofs.Ytcgmffpddahgoaa
open Go Go.RowKit
set_option maxRecDepth 100000

/-- 'returns a new grid whose heights are told, and true, or nothing and false' -/
def RG (T : TypeId) (ok : Bool) (wd hg : Int) (n : Nat) (h : Nat → Nat) (w : World) (e : Ending) (w' : World) : Prop :=
  (ok = true ∧ (∃ g cap, e = .returned (.tuple #[gd wd hg (sl g n cap), .bool true]) ∧ Own w' w.heap.size T g cap n h) ∧ Below w.heap.size w w') ∨ (ok = false ∧ e = .returned (.tuple #[gd 0 0 (.slice none 0 0), .bool false]) ∧ Below w.heap.size w w')
theorem RG.no {T : TypeId} {ok : Bool} {wd hg : Int} {n : Nat} {h : Nat → Nat} {w w' : World} (ho : ok = false) (b : Below w.heap.size w w') : RG T ok wd hg n h w (.returned (.tuple #[gd 0 0 (.slice none 0 0), .bool false])) w' := .inr ⟨ho, rfl, b⟩
theorem RG.t {T : TypeId} {wd hg : Int} {n : Nat} {h : Nat → Nat} {w w' : World} {e : Ending} (r : RG T true wd hg n h w e w') : (∃ g cap, e = .returned (.tuple #[gd wd hg (sl g n cap), .bool true]) ∧ Own w' w.heap.size T g cap n h) ∧ Below w.heap.size w w' := by
  rcases r with ⟨_, h1, h2⟩ | ⟨h, _⟩
  · exact ⟨h1, h2⟩
  · cases h
theorem RG.f {T : TypeId} {wd hg : Int} {n : Nat} {h : Nat → Nat} {w w' : World} {e : Ending} (r : RG T false wd hg n h w e w') : e = .returned (.tuple #[gd 0 0 (.slice none 0 0), .bool false]) ∧ Below w.heap.size w w' := by
  rcases r with ⟨h, _⟩ | ⟨_, h1, h2⟩
  · cases h
  · exact ⟨h1, h2⟩
set_option maxHeartbeats 4000000 in
theorem gridOf_flat {wd hg : Int} {bc c : Nat} (w : World)  (hcl : ∀ W, Below w.heap.size w W → ∀ j : Nat, j < 256 → sideB wd hg = true → (j : Int) < wd * hg → Calls Try.prog 58 #[.int .i64 j, .pointer (some ⟨bc, 0, none⟩)] W (RF .f32 ((fun _ => c) j) W)) : Calls Try.prog 57 #[.agg #[.int .i64 wd, .int .i64 hg], .func (.func 58) #[] #[.pointer (some ⟨bc, 0, none⟩)]] w (RG 29 (sideB wd hg && finB (wd * hg).toNat ((fun _ => c))) wd hg (wd * hg).toNat ((fun _ => c)) w) := by
  obtain ⟨i0, hi, hz0, hz1, hz2⟩ := info_parts (P := Try.prog) (e := 29) (z := .float .f32 0) (size := 1) (bytes := 4) (by kernel_rfl)
  have B0 := Hb.mk (Below.refl w.heap.size w)
  have HCL := Hf.mk hcl
  clear hcl
  cases h1 : sideB wd hg
  · have H1 := Hf.mk h1
    clear h1
    go_enter Try.func57, Try.ntmps57
    go_wp2_with (first | (go_at_call 84; refine (areValid_any _ _ _).mono ?_; rw [H1.out]; rintro e w1 ⟨rfl, b1⟩; have B1 := Hb.mk (Below.on (B := w.heap.size) (a := w) (by repeat (first | exact B0.out | refine Below.drews ?_ | refine Below.drew ?_ | refine Below.alloc ?_ (by have hq_ := B0.out.size; first | omega | (simp <;> omega)) _ | refine Below.setCell ?_ (by have hq_ := B0.out.size; first | omega | (simp <;> omega)) _)) b1 (by have hq_ := B0.out.size; first | omega | (simp <;> omega))); have r0 := Hb.mk (At.keep b1 (p := ⟨(w.heap.size), 0, none⟩) (v := .int .i64 wd) (by simp [go_sem]) (by simp [go_sem])); obtain ⟨r0c, r0z, r0l⟩ := r0.out; have r1 := Hb.mk (At.keep b1 (p := ⟨(w.heap.size), 1, none⟩) (v := .int .i64 hg) (by simp [go_sem]) (by simp [go_sem])); obtain ⟨r1c, r1z, r1l⟩ := r1.out; have q0 := Hb.mk (At.keep b1 (p := ⟨(w.heap.size + 1), 0, none⟩) (v := .int .i64 0) (by simp [go_sem]) (by simp [go_sem])); obtain ⟨q0c, q0z, q0l⟩ := q0.out; have q1 := Hb.mk (At.keep b1 (p := ⟨(w.heap.size + 1), 1, none⟩) (v := .int .i64 0) (by simp [go_sem]) (by simp [go_sem])); obtain ⟨q1c, q1z, q1l⟩ := q1.out; have q2 := Hb.mk (At.keep b1 (p := ⟨(w.heap.size + 1), 2, none⟩) (v := .slice none 0 0) (by simp [go_sem]) (by simp [go_sem])); obtain ⟨q2c, q2z, q2l⟩ := q2.out; clear b1))
    exact bodyPost_ret (v := .tuple #[gd 0 0 (.slice none 0 0), .bool false]) (by simp [results, Try.results57, go_sem, q0c, q1c, q2c]) rfl (RG.no (by rfl) (by repeat (first | with_reducible refine Below.setCell ?_ (by first | omega | (simp <;> omega)) _ | with_reducible refine Below.drews ?_ | with_reducible refine Below.drew ?_ | with_reducible refine Below.alloc ?_ (by first | omega | (simp <;> omega)) _ | with_reducible exact B1.out | with_reducible exact Below.refl _ _)))
  · have h2 := h1
    unfold sideB at h2
    rw [decide_eq_true_iff] at h2
    obtain ⟨s1, s2, s3, s4⟩ := h2
    have H1 := Hf.mk h1
    have b0 : 4 ≤ wd * hg := by have := Int.mul_le_mul s1 s3 (by omega) (by omega); simpa using this
    have b1 : wd * hg ≤ 256 := by have := Int.mul_le_mul s2 s4 (by omega) (by omega); simpa using this
    obtain ⟨n, hn⟩ : ∃ n : Nat, n = (wd * hg).toNat := ⟨_, rfl⟩
    have hp : wd * hg = (n : Int) := by omega
    rw [← hn]
    rw [hp] at HCL b0 b1
    have KV := Keep.mk (show (true && finB n ((fun _ => c))) = finB n ((fun _ => c)) from Bool.true_and _)
    clear hn h1
    go_enter Try.func57, Try.ntmps57
    go_wp2_with (first | (go_at_call 84; refine (areValid_any _ _ _).mono ?_; rw [H1.out]; rintro e w1 ⟨rfl, b1⟩; have B1 := Hb.mk (Below.on (B := w.heap.size) (a := w) (by repeat (first | exact B0.out | refine Below.drews ?_ | refine Below.drew ?_ | refine Below.alloc ?_ (by have hq_ := B0.out.size; first | omega | (simp <;> omega)) _ | refine Below.setCell ?_ (by have hq_ := B0.out.size; first | omega | (simp <;> omega)) _)) b1 (by have hq_ := B0.out.size; first | omega | (simp <;> omega))); have r0 := Hb.mk (At.keep b1 (p := ⟨(w.heap.size), 0, none⟩) (v := .int .i64 wd) (by simp [go_sem]) (by simp [go_sem])); obtain ⟨r0c, r0z, r0l⟩ := r0.out; have r1 := Hb.mk (At.keep b1 (p := ⟨(w.heap.size), 1, none⟩) (v := .int .i64 hg) (by simp [go_sem]) (by simp [go_sem])); obtain ⟨r1c, r1z, r1l⟩ := r1.out; have q0 := Hb.mk (At.keep b1 (p := ⟨(w.heap.size + 1), 0, none⟩) (v := .int .i64 0) (by simp [go_sem]) (by simp [go_sem])); obtain ⟨q0c, q0z, q0l⟩ := q0.out; have q1 := Hb.mk (At.keep b1 (p := ⟨(w.heap.size + 1), 1, none⟩) (v := .int .i64 0) (by simp [go_sem]) (by simp [go_sem])); obtain ⟨q1c, q1z, q1l⟩ := q1.out; have q2 := Hb.mk (At.keep b1 (p := ⟨(w.heap.size + 1), 2, none⟩) (v := .slice none 0 0) (by simp [go_sem]) (by simp [go_sem])); obtain ⟨q2c, q2z, q2l⟩ := q2.out; clear b1) | (at_make; refine wpList_make_full _ rfl _ _ 24 rfl w1.heap.size 29 i0 _ 1 Try.underlying24 hi hz0 hz1 .i64 .i64 _ _ n rfl rfl rfl rfl (by rw [hz2]; omega) (by unfold maxLen; omega) (Nat.le_refl _) ?_; intro w0 hown0 hgrow0))
    have hO0 : Own w0 w1.heap.size 29 w1.heap.size n n (fun j => nrm .f32 ((List.replicate n 0).getD j 0)) := by
      rw [mades] at hown0
      exact Own.of hown0 (fun x hx => by rw [List.eq_of_mem_replicate hx]; decide +kernel)
    have B00 : Below w1.heap.size w1 w0 := (Below.refl _ _).grown hgrow0 (Nat.le_refl _) (fun k h => by cases h)
    have HO0 := Hf.mk hO0
    have S1 := B1.out.size
    clear hO0 hown0 hgrow0
    go_loopw [20] (fun i wr => ∃ m : Nat, m ≤ n ∧ i = .int .i64 m ∧ Hf (∃ f, Own wr w1.heap.size 29 w1.heap.size n n f ∧ ∀ j, j < m → f j = (fun _ => c) j) ∧ Hf (Below w1.heap.size w1 wr)) (fun i _ => n - (intOf i).toNat)
    case atStart => exact ⟨0, by omega, rfl, ⟨⟨_, HO0.out, fun j h => absurd h (Nat.not_lt_zero j)⟩⟩, ⟨B00⟩⟩
    case round =>
      obtain ⟨m, hm, rfl, hf, hb⟩ := hrel
      obtain ⟨W1, hW1⟩ : ∃ W1, W1 = wr := ⟨_, rfl⟩
      subst hW1
      by_cases hlt : m < n
      · obtain ⟨f, hO, hF⟩ := hf.out
        have HO := Hf.mk hO
        have HF := Hf.mk hF
        obtain ⟨ro, ko, _⟩ := HO.out.cell hlt
        have zo := HO.out.free m
        have lo := HO.out.lt.2
        have KC := Hf.mk (HCL.out _ (Below.on B1.out hb.out S1) m (by omega) H1.out (by omega))
        clear hO hF
        go_wp2_with (first | (go_at_call 58; refine KC.out.mono ?_; rintro e w' ⟨r, q, rfl, hr, rfl⟩))
        go_roundw
        case rel =>
          refine ⟨m + 1, by omega, i_ext2 (by omega), ⟨⟨_, (HO.out.drews _).set hlt hr, fun j hj => ?_⟩⟩, ⟨Below.setCell (Below.drews hb.out) (Nat.le_refl _) _⟩⟩
          show (if j = m then _ else f j) = _
          by_cases he : j = m
          · subst he; rw [if_pos rfl]
          · rw [if_neg he]; exact HF.out j (by omega)
        case measure => simp [intOf]; omega
      · obtain rfl : m = n := by omega
        obtain ⟨f, hO, hF⟩ := hf.out
        have HO := Hf.mk (hO.mono (Nat.le_refl _) hF)
        clear hO hF hf
        cases hv : finB m ((fun _ => c))
        · have HV := Hf.mk hv
          clear hv
          have k0 := Below.keep hb.out r0c
          have k1 := Below.keep hb.out r1c
          have B9 := Hb.mk (Below.on B1.out hb.out S1)
          have q0 := Hb.mk (At.keep hb.out q0c q0z); obtain ⟨q0c, q0z, q0l⟩ := q0.out; have q1 := Hb.mk (At.keep hb.out q1c q1z); obtain ⟨q1c, q1z, q1l⟩ := q1.out; have q2 := Hb.mk (At.keep hb.out q2c q2z); obtain ⟨q2c, q2z, q2l⟩ := q2.out
          go_wp2_with (first | (go_at_call 85; refine (areF_any _ HO.out.told (by omega)).mono ?_; rw [HV.out]; rintro e w' ⟨rfl, q5, rfl⟩))
          refine bodyPost_ret (v := .tuple #[gd 0 0 (.slice none 0 0), .bool false]) (by simp [results, Try.results57, go_sem, q0c, q1c, q2c]) rfl (RG.no (by rw [KV.out]; exact HV.out) (by repeat (first | with_reducible refine Below.setCell ?_ (by first | omega | (simp <;> omega)) _ | with_reducible refine Below.drews ?_ | with_reducible refine Below.drew ?_ | with_reducible refine Below.alloc ?_ (by first | omega | (simp <;> omega)) _ | with_reducible exact B9.out | with_reducible exact Below.refl _ _)))
        · have HV := Hf.mk hv
          clear hv
          have k0 := Below.keep hb.out r0c
          have k1 := Below.keep hb.out r1c
          have B9 := Hb.mk (Below.on B1.out hb.out S1)
          have q0 := Hb.mk (At.keep hb.out q0c q0z); obtain ⟨q0c, q0z, q0l⟩ := q0.out; have q1 := Hb.mk (At.keep hb.out q1c q1z); obtain ⟨q1c, q1z, q1l⟩ := q1.out; have q2 := Hb.mk (At.keep hb.out q2c q2z); obtain ⟨q2c, q2z, q2l⟩ := q2.out
          go_wp2_with (first | (go_at_call 85; refine (areF_any _ HO.out.told (by omega)).mono ?_; rw [HV.out]; rintro e w' ⟨rfl, q5, rfl⟩))
          refine bodyPost_ret (v := .tuple #[gd wd hg (sl w1.heap.size m m), .bool true]) (by simp [results, Try.results57, go_sem, q0c, q1c, q2c]) rfl (.inl ⟨by rw [KV.out]; exact HV.out, ⟨_, _, rfl, ?_⟩, (by repeat (first | with_reducible refine Below.setCell ?_ (by first | omega | (simp <;> omega)) _ | with_reducible refine Below.drews ?_ | with_reducible refine Below.drew ?_ | with_reducible refine Below.alloc ?_ (by first | omega | (simp <;> omega)) _ | with_reducible exact B9.out | with_reducible exact Below.refl _ _))⟩)
          exact (((HO.out.mono S1 (fun _ _ => rfl)).drews _).other (by simp; omega) _).other (by simp; omega) _ |>.other (by simp; omega) _
end Go.Proofs.Ytcgmffpddahgoaa
