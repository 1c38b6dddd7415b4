/-
  Where a course leads, of the program. No condition.
-/
import Derived.Test.YtfmhbmehidlhiaaGo
namespace Go.Proofs.Ytfmhbmehidlhiaa
open Go Go.RowKit
set_option maxRecDepth 100000
theorem fn_cells {W : World} {b : Nat} {x y z : Value} (h0 : W.cell? ⟨b, 0, none⟩ = some x) (h1 : W.cell? ⟨b, 1, none⟩ = some y) (h2 : W.cell? ⟨b, 2, none⟩ = some z) : W.cell? ⟨b, 0, none⟩ = some x ∧ W.cell? ⟨b, 1, none⟩ = some y ∧ W.cell? ⟨b, 2, none⟩ = some z := ⟨h0, h1, h2⟩
set_option maxHeartbeats 8000000 in
theorem courseFrom_any {n e c : Nat} (f1 : Fl .f32 n n) (f2 : Fl .f32 e e) (f3 : Fl .f32 c c) (hc : fin .f32 c = true) (hv : validC n e = true) (w : World) : Calls Try.prog 32 #[pl n e, .float .f32 c] w (fun ex w' => ∃ bs bd, ex = .returned (.func (.func 72) #[] #[.pointer (some ⟨bs, 0, none⟩), .pointer (some ⟨bd, 0, none⟩)]) ∧ (w'.cell? ⟨bs, 0, none⟩ = some (.float .f32 (wxC n e)) ∧ w'.cell? ⟨bs, 1, none⟩ = some (.float .f32 (wyC n e)) ∧ w'.cell? ⟨bs, 2, none⟩ = some (.float .f32 (sineC n))) ∧ (w'.cell? ⟨bd, 0, none⟩ = some (.float .f32 (nD1 n e c)) ∧ w'.cell? ⟨bd, 1, none⟩ = some (.float .f32 (nD2 n e c)) ∧ w'.cell? ⟨bd, 2, none⟩ = some (.float .f32 (nD3 n c))) ∧ Below w.heap.size w w') := by
  obtain ⟨hn, he⟩ := turns_of hv
  have g1 := Go1.of hn he hc
  have f0 := fop_fl (op := .mul) g1.an.fin
  have KSn := Hb.mk (fun w => exactF (iSineTurns_any f1 w) hn.sine.fin)
  have KSe := Hb.mk (fun w => exactF (iSineTurns_any f2 w) he.sine.fin)
  have KCn := Hb.mk (fun w => exactF (cosineTurns_any f1 w) hn.cos.fin)
  have KCe := Hb.mk (fun w => exactF (cosineTurns_any f2 w) he.cos.fin)
  have KSc := Hb.mk (fun w => exactF (iSineTurns_any f3 w) (sine_ab hc).fin)
  have KCc := Hb.mk (fun w => exactF (cosineTurns_any f3 w) (cos_any hc).fin)
  have lsn := sine_ok hn.sine.fin
  have lse := sine_ok he.sine.fin
  have lce := sine_ok (c := fop .add .f32 e 1048576000) he.cos.fin
  change Fl .f32 (cosC e) (cosC e) at lce
  have lcc : Fl .f32 (cosC c) (cosC c) := sine_ok (c := fop .add .f32 c 1048576000) (cos_any hc).fin
  have lsc := sine_ok (sine_ab hc).fin
  have W0 := Wb.way hn he
  have KX := Hb.mk (fop_exact (P := Try.prog) (op := .mul) 22 g1.an.fin)
  have KY := Hb.mk (fop_exact (P := Try.prog) (op := .mul) 22 g1.ae.fin)
  have kX := Hb.mk (fin_notN g1.an.fin)
  have kY := Hb.mk (fin_notN g1.ae.fin)
  have KNC := Hb.mk (fun w => exactW (wayTimes_any g1.N.fx g1.N.fy g1.N.fz lcc w) g1.NC.ax.fin g1.NC.ay.fin g1.NC.az.fin)
  have KMS := Hb.mk (fun w => exactW (wayTimes_any g1.M.fx g1.M.fy g1.M.fz lsc w) g1.MS.ax.fin g1.MS.ay.fin g1.MS.az.fin)
  have KD := Hb.mk (fun w => exactW (cx := nD1 n e c) (cy := nD2 n e c) (cz := nD3 n c) (wayPlus_any g1.NC.fx g1.NC.fy g1.NC.fz g1.MS.fx g1.MS.fy g1.MS.fz w) g1.D.ax.fin g1.D.ay.fin g1.D.az.fin)
  have KW := Hb.mk (wayOf_any f1 f2 hn he)
  clear g1 hn he W0 hv f0
  generalize nD1 n e c = D1 at *
  generalize nD2 n e c = D2 at *
  generalize nD3 n c = D3 at *
  generalize hwx : wxC n e = wx at *
  generalize hwy : wyC n e = wy_ at *
  clear hwx hwy
  generalize cosC c = cc at *
  generalize sineC c = sc at *
  generalize cosC n = cn at *
  generalize cosC e = ce at *
  generalize sineC e = se at *
  generalize sineC n = sn at *
  generalize hX : fop .mul .f32 sn ce = X at *
  have eX := Hb.mk hX
  generalize hY : fop .mul .f32 sn se = Y at *
  have eY := Hb.mk hY
  clear hX hY
  have B0 := Hb.mk (Below.refl w.heap.size w)
  go_enter Try.func32, Try.ntmps32
  go_wp2
  generalize hW_U0 : World.alloc w _ = U0
  have c_p_0_U0 : World.cell? U0 ⟨w.heap.size, 0, none⟩ = some (.float .f32 n) := by rw [← hW_U0]; first | (simp [go_sem]; done) | (simp [go_sem]; done) | exact (World.cell?_alloc_lt _ _ _ (by omega)).trans rfl | (simp [go_sem, World.cell?_alloc_lt]; done)
  have c_p_1_U0 : World.cell? U0 ⟨w.heap.size, 1, none⟩ = some (.float .f32 e) := by rw [← hW_U0]; first | (simp [go_sem]; done) | (simp [go_sem]; done) | exact (World.cell?_alloc_lt _ _ _ (by omega)).trans rfl | (simp [go_sem, World.cell?_alloc_lt]; done)
  have l_p_U0 : w.heap.size < U0.heap.size := block_lt_of_cell c_p_0_U0
  have B_U0 := Hb.mk (show Below w.heap.size w U0 by rw [← hW_U0]; exact (by repeat (first | with_reducible refine Below.setCell ?_ (by first | omega | (simp <;> omega)) _ | with_reducible refine Below.drews ?_ | with_reducible refine Below.drew ?_ | with_reducible refine Below.alloc ?_ (by first | omega | (simp <;> omega)) _ | with_reducible exact B0.out | with_reducible exact Below.refl _ _)))
  clear hW_U0 
  refine region_all (by kernel_rfl) (by kernel_rfl) (fun IA FA hneA HBA hcl => ?_)
  have kc_p_0_U0 := keepF HBA (p := ⟨w.heap.size, 0, none⟩) (v := .float .f32 n) c_p_0_U0
  have kc_p_1_U0 := keepF HBA (p := ⟨w.heap.size, 1, none⟩) (v := .float .f32 e) c_p_1_U0
  repeat (quiet_step (first | (go_at_call_of 56 (Value.float .f32 n); exact callD hcl (KSn.out _)) | (go_at_call_of 56 (Value.float .f32 e); exact callD hcl (KSe.out _))))
  refine wpQuiet_nil ?_
  intro _ hw'
  obtain ⟨iqA, rfl⟩ := hw'
  clear hcl
  have hbA := HBA.out iqA
  have bsA := B_U0.out.size
  have B_U1 := Hb.mk (Below.on B_U0.out hbA bsA)
  have c_p_0_U1 := kc_p_0_U0 iqA
  have c_p_1_U1 := kc_p_1_U0 iqA
  have l_p_U1 : w.heap.size < (FA iqA).heap.size := block_lt_of_cell c_p_0_U1
  clear HBA hbA bsA c_p_0_U0 c_p_1_U0 kc_p_0_U0 kc_p_1_U0 l_p_U0
  generalize FA iqA = U1 at *
  go_wp2
  refine region_fresh (o := ?ost) 5 (by kernel_rfl) (by kernel_rfl) (by kernel_rfl) rfl rfl rfl (fun a w => ?hAst) (fun Ist Fst hnest HBst => ?hst)
  case hAst =>
    go_simp
    try rfl
  have kc_p_0_U1 := keepF HBst (p := ⟨w.heap.size, 0, none⟩) (v := .float .f32 n) c_p_0_U1
  have kc_p_1_U1 := keepF HBst (p := ⟨w.heap.size, 1, none⟩) (v := .float .f32 e) c_p_1_U1
  simp only [List.take_succ_cons, List.take_zero, List.drop_succ_cons, List.drop_zero]
  repeat (refine lex_step (fun K hK => ?_); go_simp; first | (refine hK _ ?_; clear hK K) | (apply Exists.intro; refine ⟨fun _ => ?_, hK _ ?_⟩; (first | (go_at_call 61; exact callR (KW.out _)) | (go_at_call_of 69 (Value.float .f32 e); exact callRT (KCe.out _))); clear hK K))
  refine lex_nil ?_
  intro ist Vst hbst
  have bFst : Below (Fst ist).heap.size (Fst ist) Vst := Below.on ((Below.refl _ _).alloc (Nat.le_refl _) _) hbst (by simp)
  have c_p_0_Vst := Below.keep bFst (kc_p_0_U1 ist)
  have c_p_1_Vst := Below.keep bFst (kc_p_1_U1 ist)
  have l_p_Vst : w.heap.size < Vst.heap.size := block_lt_of_cell c_p_0_Vst
  have mp_st : w.heap.size < (Fst ist).heap.size := block_lt_of_cell (kc_p_0_U1 ist)
  have nep_st : w.heap.size ≠ (Fst ist).heap.size := by omega
  have nfp_st : (Fst ist).heap.size ≠ w.heap.size := by omega
  have c_st_0_Vst := Below.keep hbst (p := ⟨(Fst ist).heap.size, 0, none⟩) (v := .float .f32 0) (by simp)
  have z_st_0_Vst : Vst.frozen? ⟨(Fst ist).heap.size, 0, none⟩ = false := by rw [hbst.frozen (by simp)]; simp
  have c_st_1_Vst := Below.keep hbst (p := ⟨(Fst ist).heap.size, 1, none⟩) (v := .float .f32 0) (by simp)
  have z_st_1_Vst : Vst.frozen? ⟨(Fst ist).heap.size, 1, none⟩ = false := by rw [hbst.frozen (by simp)]; simp
  have c_st_2_Vst := Below.keep hbst (p := ⟨(Fst ist).heap.size, 2, none⟩) (v := .float .f32 0) (by simp)
  have z_st_2_Vst : Vst.frozen? ⟨(Fst ist).heap.size, 2, none⟩ = false := by rw [hbst.frozen (by simp)]; simp
  have l_st_Vst : (Fst ist).heap.size < Vst.heap.size := block_lt_of_cell c_st_0_Vst
  have bsst := B_U1.out.size
  have hsst := (HBst.out ist).size
  have qst : w.heap.size ≤ (Fst ist).heap.size := by omega
  have B_Vst := Hb.mk (Below.on B_U1.out (Below.on (HBst.out ist) bFst hsst) bsst)
  generalize (Fst ist).heap.size = Nst at *
  clear HBst hbst bFst bsst hsst c_p_0_U1 c_p_1_U1 kc_p_0_U1 kc_p_1_U1 l_p_U1
  have mX := KX.out
  have mY := KY.out
  go_wp2_with (first | (go_at_call 69; refine (KCn.out _).mono ?_; rintro ex w3 ⟨rfl, n3, rfl⟩))
  clear mX mY
  generalize hW_U2 : World.setCell (World.setCell (World.setCell (Vst) ⟨Nst, 0, none⟩ (Value.float .f32 wx)) ⟨Nst, 1, none⟩ (Value.float .f32 wy_)) ⟨Nst, 2, none⟩ (Value.float .f32 sn) = U2
  have hsz : Vst.heap.size = U2.heap.size := by rw [← hW_U2]; simp
  rw [hsz]
  have c_p_0_U2 : World.cell? U2 ⟨w.heap.size, 0, none⟩ = some (.float .f32 n) := by rw [← hW_U2]; first | (simp [go_sem, c_p_0_Vst]; done) | (simp [go_sem, c_p_0_Vst, nep_st, nfp_st]; done) | exact (World.cell?_alloc_lt _ _ _ (by omega)).trans c_p_0_Vst | (simp [go_sem, World.cell?_alloc_lt, c_p_0_Vst, nep_st, nfp_st]; done)
  have c_p_1_U2 : World.cell? U2 ⟨w.heap.size, 1, none⟩ = some (.float .f32 e) := by rw [← hW_U2]; first | (simp [go_sem, c_p_1_Vst]; done) | (simp [go_sem, c_p_1_Vst, nep_st, nfp_st]; done) | exact (World.cell?_alloc_lt _ _ _ (by omega)).trans c_p_1_Vst | (simp [go_sem, World.cell?_alloc_lt, c_p_1_Vst, nep_st, nfp_st]; done)
  have l_p_U2 : w.heap.size < U2.heap.size := block_lt_of_cell c_p_0_U2
  have c_st_0_U2 : World.cell? U2 ⟨Nst, 0, none⟩ = some (Value.float .f32 wx) := by rw [← hW_U2]; first | (simp [go_sem, c_st_0_Vst]; done) | (simp [go_sem, c_st_0_Vst, nep_st, nfp_st]; done) | exact (World.cell?_alloc_lt _ _ _ (by omega)).trans c_st_0_Vst | (simp [go_sem, World.cell?_alloc_lt, c_st_0_Vst, nep_st, nfp_st]; done)
  have z_st_0_U2 : World.frozen? U2 ⟨Nst, 0, none⟩ = false := by rw [← hW_U2]; first | (simp [go_sem, z_st_0_Vst]; done) | (simp [go_sem, z_st_0_Vst, nep_st, nfp_st]; done)
  have c_st_1_U2 : World.cell? U2 ⟨Nst, 1, none⟩ = some (Value.float .f32 wy_) := by rw [← hW_U2]; first | (simp [go_sem, c_st_1_Vst]; done) | (simp [go_sem, c_st_1_Vst, nep_st, nfp_st]; done) | exact (World.cell?_alloc_lt _ _ _ (by omega)).trans c_st_1_Vst | (simp [go_sem, World.cell?_alloc_lt, c_st_1_Vst, nep_st, nfp_st]; done)
  have z_st_1_U2 : World.frozen? U2 ⟨Nst, 1, none⟩ = false := by rw [← hW_U2]; first | (simp [go_sem, z_st_1_Vst]; done) | (simp [go_sem, z_st_1_Vst, nep_st, nfp_st]; done)
  have c_st_2_U2 : World.cell? U2 ⟨Nst, 2, none⟩ = some (Value.float .f32 sn) := by rw [← hW_U2]; first | (simp [go_sem, c_st_2_Vst]; done) | (simp [go_sem, c_st_2_Vst, nep_st, nfp_st]; done) | exact (World.cell?_alloc_lt _ _ _ (by omega)).trans c_st_2_Vst | (simp [go_sem, World.cell?_alloc_lt, c_st_2_Vst, nep_st, nfp_st]; done)
  have z_st_2_U2 : World.frozen? U2 ⟨Nst, 2, none⟩ = false := by rw [← hW_U2]; first | (simp [go_sem, z_st_2_Vst]; done) | (simp [go_sem, z_st_2_Vst, nep_st, nfp_st]; done)
  have l_st_U2 : Nst < U2.heap.size := block_lt_of_cell c_st_0_U2
  have B_U2 := Hb.mk (show Below w.heap.size w U2 by rw [← hW_U2]; exact (by repeat (first | with_reducible refine Below.setCell ?_ (by first | omega | (simp <;> omega)) _ | with_reducible refine Below.drews ?_ | with_reducible refine Below.drew ?_ | with_reducible refine Below.alloc ?_ (by first | omega | (simp <;> omega)) _ | with_reducible exact B_Vst.out | with_reducible exact Below.refl _ _)))
  clear hW_U2 c_p_0_Vst c_p_1_Vst l_p_Vst c_st_0_Vst c_st_1_Vst c_st_2_Vst z_st_0_Vst z_st_1_Vst z_st_2_Vst l_st_Vst
  generalize hW_U3 : World.alloc (World.alloc (World.drewN U2 n3) _) _ = U3
  have hb_U3 : Below U2.heap.size U2 U3 := by rw [← hW_U3]; exact (by repeat (first | exact Below.refl _ _ | with_reducible assumption | refine Below.drews ?_ | refine Below.drew ?_ | refine Below.alloc ?_ (by simp <;> omega) _ | refine Below.setCell ?_ (by simp <;> omega) _))
  have c_p_0_U3 := Below.keep hb_U3 c_p_0_U2
  have c_p_1_U3 := Below.keep hb_U3 c_p_1_U2
  have l_p_U3 : w.heap.size < U3.heap.size := block_lt_of_cell c_p_0_U3
  have c_st_0_U3 := Below.keep hb_U3 c_st_0_U2
  have z_st_0_U3 : U3.frozen? ⟨Nst, 0, none⟩ = false := by rw [hb_U3.frozen (block_lt_of_cell c_st_0_U2)]; exact z_st_0_U2
  have c_st_1_U3 := Below.keep hb_U3 c_st_1_U2
  have z_st_1_U3 : U3.frozen? ⟨Nst, 1, none⟩ = false := by rw [hb_U3.frozen (block_lt_of_cell c_st_1_U2)]; exact z_st_1_U2
  have c_st_2_U3 := Below.keep hb_U3 c_st_2_U2
  have z_st_2_U3 : U3.frozen? ⟨Nst, 2, none⟩ = false := by rw [hb_U3.frozen (block_lt_of_cell c_st_2_U2)]; exact z_st_2_U2
  have l_st_U3 : Nst < U3.heap.size := block_lt_of_cell c_st_0_U3
  have c_nn_0_U3 : U3.cell? ⟨U2.heap.size, 0, none⟩ = some (Value.float .f32 (Op.negFloat .f32 X)) := by rw [← hW_U3]; simp [go_sem]; exact (World.cell?_alloc_new (World.drewN U2 n3) _ _ 0).trans rfl
  have c_nn_1_U3 : U3.cell? ⟨U2.heap.size, 1, none⟩ = some (Value.float .f32 (Op.negFloat .f32 Y)) := by rw [← hW_U3]; simp [go_sem]; exact (World.cell?_alloc_new (World.drewN U2 n3) _ _ 1).trans rfl
  have c_nn_2_U3 : U3.cell? ⟨U2.heap.size, 2, none⟩ = some (Value.float .f32 cn) := by rw [← hW_U3]; simp [go_sem]; exact (World.cell?_alloc_new (World.drewN U2 n3) _ _ 2).trans rfl
  have l_nn_U3 : U2.heap.size < U3.heap.size := block_lt_of_cell c_nn_0_U3
  have c_mm_0_U3 : U3.cell? ⟨U2.heap.size + 1, 0, none⟩ = some (Value.float .f32 (Op.negFloat .f32 se)) := by rw [← hW_U3]; simp [go_sem]
  have c_mm_1_U3 : U3.cell? ⟨U2.heap.size + 1, 1, none⟩ = some (Value.float .f32 ce) := by rw [← hW_U3]; simp [go_sem]
  have c_mm_2_U3 : U3.cell? ⟨U2.heap.size + 1, 2, none⟩ = some (Value.float .f32 0) := by rw [← hW_U3]; simp [go_sem]
  have l_mm_U3 : U2.heap.size + 1 < U3.heap.size := block_lt_of_cell c_mm_0_U3
  have s_U3 := B_U2.out.size
  have B_U3 := Hb.mk (Below.on B_U2.out hb_U3 s_U3)
  clear hW_U3 hb_U3 c_p_0_U2 c_p_1_U2 l_p_U2 c_st_0_U2 c_st_1_U2 c_st_2_U2 z_st_0_U2 z_st_1_U2 z_st_2_U2 l_st_U2
  refine region_fresh (o := ?odd) 9 (by kernel_rfl) (by kernel_rfl) (by kernel_rfl) rfl rfl rfl (fun a w => ?hAdd) (fun Idd Fdd hnedd HBdd => ?hdd)
  case hAdd =>
    go_simp
    try rfl
  have kc_p_0_U3 := keepF HBdd (p := ⟨w.heap.size, 0, none⟩) (v := .float .f32 n) c_p_0_U3
  have kc_p_1_U3 := keepF HBdd (p := ⟨w.heap.size, 1, none⟩) (v := .float .f32 e) c_p_1_U3
  have kc_st_0_U3 := keepF HBdd (p := ⟨Nst, 0, none⟩) (v := Value.float .f32 wx) c_st_0_U3
  have kz_st_0_U3 := keepZ HBdd (p := ⟨Nst, 0, none⟩) l_st_U3 z_st_0_U3
  have kc_st_1_U3 := keepF HBdd (p := ⟨Nst, 1, none⟩) (v := Value.float .f32 wy_) c_st_1_U3
  have kz_st_1_U3 := keepZ HBdd (p := ⟨Nst, 1, none⟩) l_st_U3 z_st_1_U3
  have kc_st_2_U3 := keepF HBdd (p := ⟨Nst, 2, none⟩) (v := Value.float .f32 sn) c_st_2_U3
  have kz_st_2_U3 := keepZ HBdd (p := ⟨Nst, 2, none⟩) l_st_U3 z_st_2_U3
  have kc_nn_0_U3 := keepF HBdd (p := ⟨U2.heap.size, 0, none⟩) (v := Value.float .f32 (Op.negFloat .f32 X)) c_nn_0_U3
  have kc_nn_1_U3 := keepF HBdd (p := ⟨U2.heap.size, 1, none⟩) (v := Value.float .f32 (Op.negFloat .f32 Y)) c_nn_1_U3
  have kc_nn_2_U3 := keepF HBdd (p := ⟨U2.heap.size, 2, none⟩) (v := Value.float .f32 cn) c_nn_2_U3
  have kc_mm_0_U3 := keepF HBdd (p := ⟨U2.heap.size + 1, 0, none⟩) (v := Value.float .f32 (Op.negFloat .f32 se)) c_mm_0_U3
  have kc_mm_1_U3 := keepF HBdd (p := ⟨U2.heap.size + 1, 1, none⟩) (v := Value.float .f32 ce) c_mm_1_U3
  have kc_mm_2_U3 := keepF HBdd (p := ⟨U2.heap.size + 1, 2, none⟩) (v := Value.float .f32 0) c_mm_2_U3
  simp only [List.take_succ_cons, List.take_zero, List.drop_succ_cons, List.drop_zero]
  repeat (refine lex_step (fun K hK => ?_); go_simp; first | (refine hK _ ?_; clear hK K) | (apply Exists.intro; refine ⟨fun _ => ?_, hK _ ?_⟩; (first | (go_at_call_of 69 (Value.float .f32 c); exact callRT (KCc.out _)) | (go_at_call_of 56 (Value.float .f32 c); exact callRT (KSc.out _)) | (go_at_call_of 70 (Value.float .f32 cc); exact callR (KNC.out _)) | (go_at_call_of 70 (Value.float .f32 sc); exact callR (KMS.out _)) | (go_at_call 71; exact callR (KD.out _))); clear hK K))
  refine lex_nil ?_
  intro idd Vdd hbdd
  have bFdd : Below (Fdd idd).heap.size (Fdd idd) Vdd := Below.on ((Below.refl _ _).alloc (Nat.le_refl _) _) hbdd (by simp)
  have c_p_0_Vdd := Below.keep bFdd (kc_p_0_U3 idd)
  have c_p_1_Vdd := Below.keep bFdd (kc_p_1_U3 idd)
  have l_p_Vdd : w.heap.size < Vdd.heap.size := block_lt_of_cell c_p_0_Vdd
  have mp_dd : w.heap.size < (Fdd idd).heap.size := block_lt_of_cell (kc_p_0_U3 idd)
  have nep_dd : w.heap.size ≠ (Fdd idd).heap.size := by omega
  have nfp_dd : (Fdd idd).heap.size ≠ w.heap.size := by omega
  have c_st_0_Vdd := Below.keep bFdd (kc_st_0_U3 idd)
  have z_st_0_Vdd : Vdd.frozen? ⟨Nst, 0, none⟩ = false := by rw [bFdd.frozen (block_lt_of_cell (kc_st_0_U3 idd))]; exact kz_st_0_U3 idd
  have c_st_1_Vdd := Below.keep bFdd (kc_st_1_U3 idd)
  have z_st_1_Vdd : Vdd.frozen? ⟨Nst, 1, none⟩ = false := by rw [bFdd.frozen (block_lt_of_cell (kc_st_1_U3 idd))]; exact kz_st_1_U3 idd
  have c_st_2_Vdd := Below.keep bFdd (kc_st_2_U3 idd)
  have z_st_2_Vdd : Vdd.frozen? ⟨Nst, 2, none⟩ = false := by rw [bFdd.frozen (block_lt_of_cell (kc_st_2_U3 idd))]; exact kz_st_2_U3 idd
  have l_st_Vdd : Nst < Vdd.heap.size := block_lt_of_cell c_st_0_Vdd
  have mst_dd : Nst < (Fdd idd).heap.size := block_lt_of_cell (kc_st_0_U3 idd)
  have nest_dd : Nst ≠ (Fdd idd).heap.size := by omega
  have nfst_dd : (Fdd idd).heap.size ≠ Nst := by omega
  have c_nn_0_Vdd := Below.keep bFdd (kc_nn_0_U3 idd)
  have c_nn_1_Vdd := Below.keep bFdd (kc_nn_1_U3 idd)
  have c_nn_2_Vdd := Below.keep bFdd (kc_nn_2_U3 idd)
  have l_nn_Vdd : U2.heap.size < Vdd.heap.size := block_lt_of_cell c_nn_0_Vdd
  have mnn_dd : U2.heap.size < (Fdd idd).heap.size := block_lt_of_cell (kc_nn_0_U3 idd)
  have nenn_dd : U2.heap.size ≠ (Fdd idd).heap.size := by omega
  have nfnn_dd : (Fdd idd).heap.size ≠ U2.heap.size := by omega
  have c_mm_0_Vdd := Below.keep bFdd (kc_mm_0_U3 idd)
  have c_mm_1_Vdd := Below.keep bFdd (kc_mm_1_U3 idd)
  have c_mm_2_Vdd := Below.keep bFdd (kc_mm_2_U3 idd)
  have l_mm_Vdd : U2.heap.size + 1 < Vdd.heap.size := block_lt_of_cell c_mm_0_Vdd
  have mmm_dd : U2.heap.size + 1 < (Fdd idd).heap.size := block_lt_of_cell (kc_mm_0_U3 idd)
  have nemm_dd : U2.heap.size + 1 ≠ (Fdd idd).heap.size := by omega
  have nfmm_dd : (Fdd idd).heap.size ≠ U2.heap.size + 1 := by omega
  have c_dd_0_Vdd := Below.keep hbdd (p := ⟨(Fdd idd).heap.size, 0, none⟩) (v := .float .f32 0) (by simp)
  have z_dd_0_Vdd : Vdd.frozen? ⟨(Fdd idd).heap.size, 0, none⟩ = false := by rw [hbdd.frozen (by simp)]; simp
  have c_dd_1_Vdd := Below.keep hbdd (p := ⟨(Fdd idd).heap.size, 1, none⟩) (v := .float .f32 0) (by simp)
  have z_dd_1_Vdd : Vdd.frozen? ⟨(Fdd idd).heap.size, 1, none⟩ = false := by rw [hbdd.frozen (by simp)]; simp
  have c_dd_2_Vdd := Below.keep hbdd (p := ⟨(Fdd idd).heap.size, 2, none⟩) (v := .float .f32 0) (by simp)
  have z_dd_2_Vdd : Vdd.frozen? ⟨(Fdd idd).heap.size, 2, none⟩ = false := by rw [hbdd.frozen (by simp)]; simp
  have l_dd_Vdd : (Fdd idd).heap.size < Vdd.heap.size := block_lt_of_cell c_dd_0_Vdd
  have bsdd := B_U3.out.size
  have hsdd := (HBdd.out idd).size
  have qdd : w.heap.size ≤ (Fdd idd).heap.size := by omega
  have B_Vdd := Hb.mk (Below.on B_U3.out (Below.on (HBdd.out idd) bFdd hsdd) bsdd)
  generalize (Fdd idd).heap.size = Ndd at *
  clear HBdd hbdd bFdd bsdd hsdd c_p_0_U3 c_p_1_U3 kc_p_0_U3 kc_p_1_U3 l_p_U3 c_st_0_U3 c_st_1_U3 c_st_2_U3 kc_st_0_U3 kc_st_1_U3 kc_st_2_U3 z_st_0_U3 z_st_1_U3 z_st_2_U3 kz_st_0_U3 kz_st_1_U3 kz_st_2_U3 l_st_U3 c_nn_0_U3 c_nn_1_U3 c_nn_2_U3 kc_nn_0_U3 kc_nn_1_U3 kc_nn_2_U3 l_nn_U3 c_mm_0_U3 c_mm_1_U3 c_mm_2_U3 kc_mm_0_U3 kc_mm_1_U3 kc_mm_2_U3 l_mm_U3
  go_wp2
  generalize hW_U4 : World.setCell (World.setCell (World.setCell (Vdd) ⟨Ndd, 0, none⟩ (Value.float .f32 D1)) ⟨Ndd, 1, none⟩ (Value.float .f32 D2)) ⟨Ndd, 2, none⟩ (Value.float .f32 D3) = U4
  have c_p_0_U4 : World.cell? U4 ⟨w.heap.size, 0, none⟩ = some (.float .f32 n) := by rw [← hW_U4]; first | (simp [go_sem, c_p_0_Vdd]; done) | (simp [go_sem, c_p_0_Vdd, nep_st, nfp_st, nep_dd, nfp_dd, nest_dd, nfst_dd, nenn_dd, nfnn_dd, nemm_dd, nfmm_dd]; done) | exact (World.cell?_alloc_lt _ _ _ (by omega)).trans c_p_0_Vdd | (simp [go_sem, World.cell?_alloc_lt, c_p_0_Vdd, nep_st, nfp_st, nep_dd, nfp_dd, nest_dd, nfst_dd, nenn_dd, nfnn_dd, nemm_dd, nfmm_dd]; done)
  have c_p_1_U4 : World.cell? U4 ⟨w.heap.size, 1, none⟩ = some (.float .f32 e) := by rw [← hW_U4]; first | (simp [go_sem, c_p_1_Vdd]; done) | (simp [go_sem, c_p_1_Vdd, nep_st, nfp_st, nep_dd, nfp_dd, nest_dd, nfst_dd, nenn_dd, nfnn_dd, nemm_dd, nfmm_dd]; done) | exact (World.cell?_alloc_lt _ _ _ (by omega)).trans c_p_1_Vdd | (simp [go_sem, World.cell?_alloc_lt, c_p_1_Vdd, nep_st, nfp_st, nep_dd, nfp_dd, nest_dd, nfst_dd, nenn_dd, nfnn_dd, nemm_dd, nfmm_dd]; done)
  have l_p_U4 : w.heap.size < U4.heap.size := block_lt_of_cell c_p_0_U4
  have c_st_0_U4 : World.cell? U4 ⟨Nst, 0, none⟩ = some (Value.float .f32 wx) := by rw [← hW_U4]; first | (simp [go_sem, c_st_0_Vdd]; done) | (simp [go_sem, c_st_0_Vdd, nep_st, nfp_st, nep_dd, nfp_dd, nest_dd, nfst_dd, nenn_dd, nfnn_dd, nemm_dd, nfmm_dd]; done) | exact (World.cell?_alloc_lt _ _ _ (by omega)).trans c_st_0_Vdd | (simp [go_sem, World.cell?_alloc_lt, c_st_0_Vdd, nep_st, nfp_st, nep_dd, nfp_dd, nest_dd, nfst_dd, nenn_dd, nfnn_dd, nemm_dd, nfmm_dd]; done)
  have z_st_0_U4 : World.frozen? U4 ⟨Nst, 0, none⟩ = false := by rw [← hW_U4]; first | (simp [go_sem, z_st_0_Vdd]; done) | (simp [go_sem, z_st_0_Vdd, nep_st, nfp_st, nep_dd, nfp_dd, nest_dd, nfst_dd, nenn_dd, nfnn_dd, nemm_dd, nfmm_dd]; done)
  have c_st_1_U4 : World.cell? U4 ⟨Nst, 1, none⟩ = some (Value.float .f32 wy_) := by rw [← hW_U4]; first | (simp [go_sem, c_st_1_Vdd]; done) | (simp [go_sem, c_st_1_Vdd, nep_st, nfp_st, nep_dd, nfp_dd, nest_dd, nfst_dd, nenn_dd, nfnn_dd, nemm_dd, nfmm_dd]; done) | exact (World.cell?_alloc_lt _ _ _ (by omega)).trans c_st_1_Vdd | (simp [go_sem, World.cell?_alloc_lt, c_st_1_Vdd, nep_st, nfp_st, nep_dd, nfp_dd, nest_dd, nfst_dd, nenn_dd, nfnn_dd, nemm_dd, nfmm_dd]; done)
  have z_st_1_U4 : World.frozen? U4 ⟨Nst, 1, none⟩ = false := by rw [← hW_U4]; first | (simp [go_sem, z_st_1_Vdd]; done) | (simp [go_sem, z_st_1_Vdd, nep_st, nfp_st, nep_dd, nfp_dd, nest_dd, nfst_dd, nenn_dd, nfnn_dd, nemm_dd, nfmm_dd]; done)
  have c_st_2_U4 : World.cell? U4 ⟨Nst, 2, none⟩ = some (Value.float .f32 sn) := by rw [← hW_U4]; first | (simp [go_sem, c_st_2_Vdd]; done) | (simp [go_sem, c_st_2_Vdd, nep_st, nfp_st, nep_dd, nfp_dd, nest_dd, nfst_dd, nenn_dd, nfnn_dd, nemm_dd, nfmm_dd]; done) | exact (World.cell?_alloc_lt _ _ _ (by omega)).trans c_st_2_Vdd | (simp [go_sem, World.cell?_alloc_lt, c_st_2_Vdd, nep_st, nfp_st, nep_dd, nfp_dd, nest_dd, nfst_dd, nenn_dd, nfnn_dd, nemm_dd, nfmm_dd]; done)
  have z_st_2_U4 : World.frozen? U4 ⟨Nst, 2, none⟩ = false := by rw [← hW_U4]; first | (simp [go_sem, z_st_2_Vdd]; done) | (simp [go_sem, z_st_2_Vdd, nep_st, nfp_st, nep_dd, nfp_dd, nest_dd, nfst_dd, nenn_dd, nfnn_dd, nemm_dd, nfmm_dd]; done)
  have l_st_U4 : Nst < U4.heap.size := block_lt_of_cell c_st_0_U4
  have c_nn_0_U4 : World.cell? U4 ⟨U2.heap.size, 0, none⟩ = some (Value.float .f32 (Op.negFloat .f32 X)) := by rw [← hW_U4]; first | (simp [go_sem, c_nn_0_Vdd]; done) | (simp [go_sem, c_nn_0_Vdd, nep_st, nfp_st, nep_dd, nfp_dd, nest_dd, nfst_dd, nenn_dd, nfnn_dd, nemm_dd, nfmm_dd]; done) | exact (World.cell?_alloc_lt _ _ _ (by omega)).trans c_nn_0_Vdd | (simp [go_sem, World.cell?_alloc_lt, c_nn_0_Vdd, nep_st, nfp_st, nep_dd, nfp_dd, nest_dd, nfst_dd, nenn_dd, nfnn_dd, nemm_dd, nfmm_dd]; done)
  have c_nn_1_U4 : World.cell? U4 ⟨U2.heap.size, 1, none⟩ = some (Value.float .f32 (Op.negFloat .f32 Y)) := by rw [← hW_U4]; first | (simp [go_sem, c_nn_1_Vdd]; done) | (simp [go_sem, c_nn_1_Vdd, nep_st, nfp_st, nep_dd, nfp_dd, nest_dd, nfst_dd, nenn_dd, nfnn_dd, nemm_dd, nfmm_dd]; done) | exact (World.cell?_alloc_lt _ _ _ (by omega)).trans c_nn_1_Vdd | (simp [go_sem, World.cell?_alloc_lt, c_nn_1_Vdd, nep_st, nfp_st, nep_dd, nfp_dd, nest_dd, nfst_dd, nenn_dd, nfnn_dd, nemm_dd, nfmm_dd]; done)
  have c_nn_2_U4 : World.cell? U4 ⟨U2.heap.size, 2, none⟩ = some (Value.float .f32 cn) := by rw [← hW_U4]; first | (simp [go_sem, c_nn_2_Vdd]; done) | (simp [go_sem, c_nn_2_Vdd, nep_st, nfp_st, nep_dd, nfp_dd, nest_dd, nfst_dd, nenn_dd, nfnn_dd, nemm_dd, nfmm_dd]; done) | exact (World.cell?_alloc_lt _ _ _ (by omega)).trans c_nn_2_Vdd | (simp [go_sem, World.cell?_alloc_lt, c_nn_2_Vdd, nep_st, nfp_st, nep_dd, nfp_dd, nest_dd, nfst_dd, nenn_dd, nfnn_dd, nemm_dd, nfmm_dd]; done)
  have l_nn_U4 : U2.heap.size < U4.heap.size := block_lt_of_cell c_nn_0_U4
  have c_mm_0_U4 : World.cell? U4 ⟨U2.heap.size + 1, 0, none⟩ = some (Value.float .f32 (Op.negFloat .f32 se)) := by rw [← hW_U4]; first | (simp [go_sem, c_mm_0_Vdd]; done) | (simp [go_sem, c_mm_0_Vdd, nep_st, nfp_st, nep_dd, nfp_dd, nest_dd, nfst_dd, nenn_dd, nfnn_dd, nemm_dd, nfmm_dd]; done) | exact (World.cell?_alloc_lt _ _ _ (by omega)).trans c_mm_0_Vdd | (simp [go_sem, World.cell?_alloc_lt, c_mm_0_Vdd, nep_st, nfp_st, nep_dd, nfp_dd, nest_dd, nfst_dd, nenn_dd, nfnn_dd, nemm_dd, nfmm_dd]; done)
  have c_mm_1_U4 : World.cell? U4 ⟨U2.heap.size + 1, 1, none⟩ = some (Value.float .f32 ce) := by rw [← hW_U4]; first | (simp [go_sem, c_mm_1_Vdd]; done) | (simp [go_sem, c_mm_1_Vdd, nep_st, nfp_st, nep_dd, nfp_dd, nest_dd, nfst_dd, nenn_dd, nfnn_dd, nemm_dd, nfmm_dd]; done) | exact (World.cell?_alloc_lt _ _ _ (by omega)).trans c_mm_1_Vdd | (simp [go_sem, World.cell?_alloc_lt, c_mm_1_Vdd, nep_st, nfp_st, nep_dd, nfp_dd, nest_dd, nfst_dd, nenn_dd, nfnn_dd, nemm_dd, nfmm_dd]; done)
  have c_mm_2_U4 : World.cell? U4 ⟨U2.heap.size + 1, 2, none⟩ = some (Value.float .f32 0) := by rw [← hW_U4]; first | (simp [go_sem, c_mm_2_Vdd]; done) | (simp [go_sem, c_mm_2_Vdd, nep_st, nfp_st, nep_dd, nfp_dd, nest_dd, nfst_dd, nenn_dd, nfnn_dd, nemm_dd, nfmm_dd]; done) | exact (World.cell?_alloc_lt _ _ _ (by omega)).trans c_mm_2_Vdd | (simp [go_sem, World.cell?_alloc_lt, c_mm_2_Vdd, nep_st, nfp_st, nep_dd, nfp_dd, nest_dd, nfst_dd, nenn_dd, nfnn_dd, nemm_dd, nfmm_dd]; done)
  have l_mm_U4 : U2.heap.size + 1 < U4.heap.size := block_lt_of_cell c_mm_0_U4
  have c_dd_0_U4 : World.cell? U4 ⟨Ndd, 0, none⟩ = some (Value.float .f32 D1) := by rw [← hW_U4]; first | (simp [go_sem, c_dd_0_Vdd]; done) | (simp [go_sem, c_dd_0_Vdd, nep_st, nfp_st, nep_dd, nfp_dd, nest_dd, nfst_dd, nenn_dd, nfnn_dd, nemm_dd, nfmm_dd]; done) | exact (World.cell?_alloc_lt _ _ _ (by omega)).trans c_dd_0_Vdd | (simp [go_sem, World.cell?_alloc_lt, c_dd_0_Vdd, nep_st, nfp_st, nep_dd, nfp_dd, nest_dd, nfst_dd, nenn_dd, nfnn_dd, nemm_dd, nfmm_dd]; done)
  have z_dd_0_U4 : World.frozen? U4 ⟨Ndd, 0, none⟩ = false := by rw [← hW_U4]; first | (simp [go_sem, z_dd_0_Vdd]; done) | (simp [go_sem, z_dd_0_Vdd, nep_st, nfp_st, nep_dd, nfp_dd, nest_dd, nfst_dd, nenn_dd, nfnn_dd, nemm_dd, nfmm_dd]; done)
  have c_dd_1_U4 : World.cell? U4 ⟨Ndd, 1, none⟩ = some (Value.float .f32 D2) := by rw [← hW_U4]; first | (simp [go_sem, c_dd_1_Vdd]; done) | (simp [go_sem, c_dd_1_Vdd, nep_st, nfp_st, nep_dd, nfp_dd, nest_dd, nfst_dd, nenn_dd, nfnn_dd, nemm_dd, nfmm_dd]; done) | exact (World.cell?_alloc_lt _ _ _ (by omega)).trans c_dd_1_Vdd | (simp [go_sem, World.cell?_alloc_lt, c_dd_1_Vdd, nep_st, nfp_st, nep_dd, nfp_dd, nest_dd, nfst_dd, nenn_dd, nfnn_dd, nemm_dd, nfmm_dd]; done)
  have z_dd_1_U4 : World.frozen? U4 ⟨Ndd, 1, none⟩ = false := by rw [← hW_U4]; first | (simp [go_sem, z_dd_1_Vdd]; done) | (simp [go_sem, z_dd_1_Vdd, nep_st, nfp_st, nep_dd, nfp_dd, nest_dd, nfst_dd, nenn_dd, nfnn_dd, nemm_dd, nfmm_dd]; done)
  have c_dd_2_U4 : World.cell? U4 ⟨Ndd, 2, none⟩ = some (Value.float .f32 D3) := by rw [← hW_U4]; first | (simp [go_sem, c_dd_2_Vdd]; done) | (simp [go_sem, c_dd_2_Vdd, nep_st, nfp_st, nep_dd, nfp_dd, nest_dd, nfst_dd, nenn_dd, nfnn_dd, nemm_dd, nfmm_dd]; done) | exact (World.cell?_alloc_lt _ _ _ (by omega)).trans c_dd_2_Vdd | (simp [go_sem, World.cell?_alloc_lt, c_dd_2_Vdd, nep_st, nfp_st, nep_dd, nfp_dd, nest_dd, nfst_dd, nenn_dd, nfnn_dd, nemm_dd, nfmm_dd]; done)
  have z_dd_2_U4 : World.frozen? U4 ⟨Ndd, 2, none⟩ = false := by rw [← hW_U4]; first | (simp [go_sem, z_dd_2_Vdd]; done) | (simp [go_sem, z_dd_2_Vdd, nep_st, nfp_st, nep_dd, nfp_dd, nest_dd, nfst_dd, nenn_dd, nfnn_dd, nemm_dd, nfmm_dd]; done)
  have l_dd_U4 : Ndd < U4.heap.size := block_lt_of_cell c_dd_0_U4
  have B_U4 := Hb.mk (show Below w.heap.size w U4 by rw [← hW_U4]; exact (by repeat (first | with_reducible refine Below.setCell ?_ (by first | omega | (simp <;> omega)) _ | with_reducible refine Below.drews ?_ | with_reducible refine Below.drew ?_ | with_reducible refine Below.alloc ?_ (by first | omega | (simp <;> omega)) _ | with_reducible exact B_Vdd.out | with_reducible exact Below.refl _ _)))
  clear hW_U4 c_p_0_Vdd c_p_1_Vdd l_p_Vdd c_st_0_Vdd c_st_1_Vdd c_st_2_Vdd z_st_0_Vdd z_st_1_Vdd z_st_2_Vdd l_st_Vdd c_nn_0_Vdd c_nn_1_Vdd c_nn_2_Vdd l_nn_Vdd c_mm_0_Vdd c_mm_1_Vdd c_mm_2_Vdd l_mm_Vdd c_dd_0_Vdd c_dd_1_Vdd c_dd_2_Vdd z_dd_0_Vdd z_dd_1_Vdd z_dd_2_Vdd l_dd_Vdd
  go_ret
  exact ⟨_, _, rfl, fn_cells c_st_0_U4 c_st_1_U4 c_st_2_U4, fn_cells c_dd_0_U4 c_dd_1_U4 c_dd_2_U4, B_U4.out⟩
set_option maxHeartbeats 8000000 in
theorem courseFn_any {n e c f : Nat} (_f1 : Fl .f32 n n) (_f2 : Fl .f32 e e) (_f3 : Fl .f32 c c) (f4 : Fl .f32 f f) (hc : fin .f32 c = true) (hf : fin .f32 f = true) (hv : validC n e = true) {A B : Nat} {ok : Bool} (KP : Hb (∀ w, Calls Try.prog 73 #[wy (nP1 n e c f) (nP2 n e c f) (nP3 n c f)] w (RS (plT A B ok) w))) {bs bd : Nat} (w : World) (hs : w.cell? ⟨bs, 0, none⟩ = some (.float .f32 (wxC n e)) ∧ w.cell? ⟨bs, 1, none⟩ = some (.float .f32 (wyC n e)) ∧ w.cell? ⟨bs, 2, none⟩ = some (.float .f32 (sineC n))) (hd : w.cell? ⟨bd, 0, none⟩ = some (.float .f32 (nD1 n e c)) ∧ w.cell? ⟨bd, 1, none⟩ = some (.float .f32 (nD2 n e c)) ∧ w.cell? ⟨bd, 2, none⟩ = some (.float .f32 (nD3 n c))) : Calls Try.prog 72 #[.float .f32 f, .pointer (some ⟨bs, 0, none⟩), .pointer (some ⟨bd, 0, none⟩)] w (RS (plT A B ok) w) := by
  obtain ⟨hn, he⟩ := turns_of hv
  have g1 := Go1.of hn he hc
  have g2 := Go2.of hn he hc hf
  have KSf := Hb.mk (fun w => exactF (iSineTurns_any f4 w) (sine_ab hf).fin)
  have KCf := Hb.mk (fun w => exactF (cosineTurns_any f4 w) (cos_any hf).fin)
  have lcf : Fl .f32 (cosC f) (cosC f) := sine_ok (c := fop .add .f32 f 1048576000) (cos_any hf).fin
  have lsf := sine_ok (sine_ab hf).fin
  have W0 := Wb.way hn he
  have KWC := Hb.mk (fun w => exactW (wayTimes_any W0.fx W0.fy W0.fz lcf w) g2.WC.ax.fin g2.WC.ay.fin g2.WC.az.fin)
  have KDS := Hb.mk (fun w => exactW (wayTimes_any g1.D.fx g1.D.fy g1.D.fz lsf w) g2.DS.ax.fin g2.DS.ay.fin g2.DS.az.fin)
  have KPa := Hb.mk (fun w => exactW (cx := nP1 n e c f) (cy := nP2 n e c f) (cz := nP3 n c f) (wayPlus_any g2.WC.fx g2.WC.fy g2.WC.fz g2.DS.fx g2.DS.fy g2.DS.fz w) g2.P.ax.fin g2.P.ay.fin g2.P.az.fin)
  clear g1 g2 hn he W0 hv
  generalize nP1 n e c f = P1 at *
  generalize nP2 n e c f = P2 at *
  generalize nP3 n c f = P3 at *
  generalize nD1 n e c = D1 at *
  generalize nD2 n e c = D2 at *
  generalize nD3 n c = D3 at *
  generalize wxC n e = wx at *
  generalize wyC n e = wy_ at *
  generalize cosC f = cf at *
  generalize sineC f = sf at *
  generalize sineC n = sn at *
  obtain ⟨c_s_0_w, c_s_1_w, c_s_2_w⟩ := hs
  obtain ⟨c_d_0_w, c_d_1_w, c_d_2_w⟩ := hd
  have l_s_w : bs < w.heap.size := block_lt_of_cell c_s_0_w
  have l_d_w : bd < w.heap.size := block_lt_of_cell c_d_0_w
  have hn1 : bs ≠ w.heap.size := by omega
  have hn2 : bd ≠ w.heap.size := by omega
  have hn3 : w.heap.size ≠ bs := by omega
  have hn4 : w.heap.size ≠ bd := by omega
  have B0 := Hb.mk (Below.refl w.heap.size w)
  go_enter Try.func72, Try.ntmps72
  go_wp2
  generalize hW_U0 : World.alloc w _ = U0
  have c_s_0_U0 : World.cell? U0 ⟨bs, 0, none⟩ = some (Value.float .f32 wx) := by rw [← hW_U0]; first | (simp [go_sem, c_s_0_w]; done) | (simp [go_sem, c_s_0_w, hn1, hn2, hn3, hn4]; done) | exact (World.cell?_alloc_lt _ _ _ (by omega)).trans c_s_0_w | (simp [go_sem, World.cell?_alloc_lt, c_s_0_w, hn1, hn2, hn3, hn4]; done)
  have c_s_1_U0 : World.cell? U0 ⟨bs, 1, none⟩ = some (Value.float .f32 wy_) := by rw [← hW_U0]; first | (simp [go_sem, c_s_1_w]; done) | (simp [go_sem, c_s_1_w, hn1, hn2, hn3, hn4]; done) | exact (World.cell?_alloc_lt _ _ _ (by omega)).trans c_s_1_w | (simp [go_sem, World.cell?_alloc_lt, c_s_1_w, hn1, hn2, hn3, hn4]; done)
  have c_s_2_U0 : World.cell? U0 ⟨bs, 2, none⟩ = some (Value.float .f32 sn) := by rw [← hW_U0]; first | (simp [go_sem, c_s_2_w]; done) | (simp [go_sem, c_s_2_w, hn1, hn2, hn3, hn4]; done) | exact (World.cell?_alloc_lt _ _ _ (by omega)).trans c_s_2_w | (simp [go_sem, World.cell?_alloc_lt, c_s_2_w, hn1, hn2, hn3, hn4]; done)
  have l_s_U0 : bs < U0.heap.size := block_lt_of_cell c_s_0_U0
  have c_d_0_U0 : World.cell? U0 ⟨bd, 0, none⟩ = some (Value.float .f32 D1) := by rw [← hW_U0]; first | (simp [go_sem, c_d_0_w]; done) | (simp [go_sem, c_d_0_w, hn1, hn2, hn3, hn4]; done) | exact (World.cell?_alloc_lt _ _ _ (by omega)).trans c_d_0_w | (simp [go_sem, World.cell?_alloc_lt, c_d_0_w, hn1, hn2, hn3, hn4]; done)
  have c_d_1_U0 : World.cell? U0 ⟨bd, 1, none⟩ = some (Value.float .f32 D2) := by rw [← hW_U0]; first | (simp [go_sem, c_d_1_w]; done) | (simp [go_sem, c_d_1_w, hn1, hn2, hn3, hn4]; done) | exact (World.cell?_alloc_lt _ _ _ (by omega)).trans c_d_1_w | (simp [go_sem, World.cell?_alloc_lt, c_d_1_w, hn1, hn2, hn3, hn4]; done)
  have c_d_2_U0 : World.cell? U0 ⟨bd, 2, none⟩ = some (Value.float .f32 D3) := by rw [← hW_U0]; first | (simp [go_sem, c_d_2_w]; done) | (simp [go_sem, c_d_2_w, hn1, hn2, hn3, hn4]; done) | exact (World.cell?_alloc_lt _ _ _ (by omega)).trans c_d_2_w | (simp [go_sem, World.cell?_alloc_lt, c_d_2_w, hn1, hn2, hn3, hn4]; done)
  have l_d_U0 : bd < U0.heap.size := block_lt_of_cell c_d_0_U0
  have c_r_0_U0 : World.cell? U0 ⟨w.heap.size, 0, none⟩ = some (.float .f32 0) := by rw [← hW_U0]; first | (simp [go_sem]; done) | (simp [go_sem, hn1, hn2, hn3, hn4]; done) | exact (World.cell?_alloc_lt _ _ _ (by omega)).trans rfl | (simp [go_sem, World.cell?_alloc_lt, hn1, hn2, hn3, hn4]; done)
  have z_r_0_U0 : World.frozen? U0 ⟨w.heap.size, 0, none⟩ = false := by rw [← hW_U0]; first | (simp [go_sem]; done) | (simp [go_sem, hn1, hn2, hn3, hn4]; done)
  have c_r_1_U0 : World.cell? U0 ⟨w.heap.size, 1, none⟩ = some (.float .f32 0) := by rw [← hW_U0]; first | (simp [go_sem]; done) | (simp [go_sem, hn1, hn2, hn3, hn4]; done) | exact (World.cell?_alloc_lt _ _ _ (by omega)).trans rfl | (simp [go_sem, World.cell?_alloc_lt, hn1, hn2, hn3, hn4]; done)
  have z_r_1_U0 : World.frozen? U0 ⟨w.heap.size, 1, none⟩ = false := by rw [← hW_U0]; first | (simp [go_sem]; done) | (simp [go_sem, hn1, hn2, hn3, hn4]; done)
  have l_r_U0 : w.heap.size < U0.heap.size := block_lt_of_cell c_r_0_U0
  have B_U0 := Hb.mk (show Below w.heap.size w U0 by rw [← hW_U0]; exact (by repeat (first | with_reducible refine Below.setCell ?_ (by first | omega | (simp <;> omega)) _ | with_reducible refine Below.drews ?_ | with_reducible refine Below.drew ?_ | with_reducible refine Below.alloc ?_ (by first | omega | (simp <;> omega)) _ | with_reducible exact B0.out | with_reducible exact Below.refl _ _)))
  clear hW_U0 c_s_0_w c_s_1_w c_s_2_w l_s_w c_d_0_w c_d_1_w c_d_2_w l_d_w
  refine region_late0 12 11 (by kernel_rfl) (by kernel_rfl) rfl (extract_pure rfl) (fun d v c a w h => by cases d <;> exact h) (fun Ix Fx hnex HBx => ?_)
  have kc_s_0_U0 := keepF HBx (p := ⟨bs, 0, none⟩) (v := Value.float .f32 wx) c_s_0_U0
  have kc_s_1_U0 := keepF HBx (p := ⟨bs, 1, none⟩) (v := Value.float .f32 wy_) c_s_1_U0
  have kc_s_2_U0 := keepF HBx (p := ⟨bs, 2, none⟩) (v := Value.float .f32 sn) c_s_2_U0
  have kc_d_0_U0 := keepF HBx (p := ⟨bd, 0, none⟩) (v := Value.float .f32 D1) c_d_0_U0
  have kc_d_1_U0 := keepF HBx (p := ⟨bd, 1, none⟩) (v := Value.float .f32 D2) c_d_1_U0
  have kc_d_2_U0 := keepF HBx (p := ⟨bd, 2, none⟩) (v := Value.float .f32 D3) c_d_2_U0
  have kc_r_0_U0 := keepF HBx (p := ⟨w.heap.size, 0, none⟩) (v := .float .f32 0) c_r_0_U0
  have kz_r_0_U0 := keepZ HBx (p := ⟨w.heap.size, 0, none⟩) l_r_U0 z_r_0_U0
  have kc_r_1_U0 := keepF HBx (p := ⟨w.heap.size, 1, none⟩) (v := .float .f32 0) c_r_1_U0
  have kz_r_1_U0 := keepZ HBx (p := ⟨w.heap.size, 1, none⟩) l_r_U0 z_r_1_U0
  simp only [List.take_succ_cons, List.take_zero, List.drop_succ_cons, List.drop_zero]
  repeat (refine lex_step (fun K hK => ?_); go_simp; first | (refine hK _ ?_; clear hK K) | (apply Exists.intro; refine ⟨fun _ => ?_, hK _ ?_⟩; (first | (go_at_call_of 69 (Value.float .f32 f); exact callRT (KCf.out _)) | (go_at_call_of 56 (Value.float .f32 f); exact callRT (KSf.out _)) | (go_at_call_of 70 (Value.float .f32 cf); exact callR (KWC.out _)) | (go_at_call_of 70 (Value.float .f32 sf); exact callR (KDS.out _)) | (go_at_call 71; exact callR (KPa.out _)) | (go_at_call 73; exact callR (KP.out _))); clear hK K))
  refine lex_nil ?_
  intro iqx
  have hbx := HBx.out iqx
  have bsx := B_U0.out.size
  have B_U5 := Hb.mk (Below.on B_U0.out hbx bsx)
  have c_s_0_U5 := kc_s_0_U0 iqx
  have c_s_1_U5 := kc_s_1_U0 iqx
  have c_s_2_U5 := kc_s_2_U0 iqx
  have l_s_U5 : bs < (Fx iqx).heap.size := block_lt_of_cell c_s_0_U5
  have c_d_0_U5 := kc_d_0_U0 iqx
  have c_d_1_U5 := kc_d_1_U0 iqx
  have c_d_2_U5 := kc_d_2_U0 iqx
  have l_d_U5 : bd < (Fx iqx).heap.size := block_lt_of_cell c_d_0_U5
  have c_r_0_U5 := kc_r_0_U0 iqx
  have z_r_0_U5 := kz_r_0_U0 iqx
  have c_r_1_U5 := kc_r_1_U0 iqx
  have z_r_1_U5 := kz_r_1_U0 iqx
  have l_r_U5 : w.heap.size < (Fx iqx).heap.size := block_lt_of_cell c_r_0_U5
  clear HBx hbx bsx c_s_0_U0 c_s_1_U0 c_s_2_U0 kc_s_0_U0 kc_s_1_U0 kc_s_2_U0 l_s_U0 c_d_0_U0 c_d_1_U0 c_d_2_U0 kc_d_0_U0 kc_d_1_U0 kc_d_2_U0 l_d_U0 c_r_0_U0 c_r_1_U0 kc_r_0_U0 kc_r_1_U0 z_r_0_U0 z_r_1_U0 kz_r_0_U0 kz_r_1_U0 l_r_U0
  generalize Fx iqx = U5 at *
  go_wp2
  exact bodyPost_ret (v := plT A B ok) (by simp [results, Try.results72, go_sem, c_r_0_U5, c_r_1_U5]) rfl ⟨rfl, (by repeat (first | with_reducible refine Below.setCell ?_ (by first | omega | (simp <;> omega)) _ | with_reducible refine Below.drews ?_ | with_reducible refine Below.drew ?_ | with_reducible refine Below.alloc ?_ (by first | omega | (simp <;> omega)) _ | with_reducible exact B_U5.out | with_reducible exact Below.refl _ _))⟩
end Go.Proofs.Ytfmhbmehidlhiaa
