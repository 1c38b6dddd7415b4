/-
  Where a course leads, of the model. No condition.
-/
import Derived.Test.YtfmhbmehidlhiaaGo
namespace Go.Proofs.Ytfmhbmehidlhiaa
open Go Go.RowKit
set_option maxRecDepth 100000
set_option maxHeartbeats 8000000 in
theorem l02Go_any {n e c f : Nat} (f1 : Fl .f32 n n) (f2 : Fl .f32 e e) (f3 : Fl .f32 c c) (f4 : Fl .f32 f f) (hc : fin .f32 c = true) (hf : fin .f32 f = true) (hv : validC n e = true) {A B : Nat} {ok : Bool} (KP : Hb (∀ w, Calls Try.prog 66 #[wy (nP1 n e c f) (nP2 n e c f) (nP3 n c f)] w (RS (plT A B ok) w))) (w : World) : Calls Try.prog 29 #[pl n e, .float .f32 c, .float .f32 f] w (RS (plT A B ok) w) := by
  obtain ⟨hn, he⟩ := turns_of hv
  have g1 := Go1.of hn he hc
  have g2 := Go2.of hn he hc hf
  have f0 := fop_fl (op := .mul) g1.an.fin
  have KSn := Hb.mk (fun w => exactF (l01Sine_any f1 w) hn.sine.fin)
  have KSe := Hb.mk (fun w => exactF (l01Sine_any f2 w) he.sine.fin)
  have KCn := Hb.mk (fun w => exactF (l02Cosine_any f1 w) hn.cos.fin)
  have KCe := Hb.mk (fun w => exactF (l02Cosine_any f2 w) he.cos.fin)
  have KSc := Hb.mk (fun w => exactF (l01Sine_any f3 w) (sine_ab hc).fin)
  have KCc := Hb.mk (fun w => exactF (l02Cosine_any f3 w) (cos_any hc).fin)
  have KSf := Hb.mk (fun w => exactF (l01Sine_any f4 w) (sine_ab hf).fin)
  have KCf := Hb.mk (fun w => exactF (l02Cosine_any f4 w) (cos_any hf).fin)
  have lsn := sine_ok hn.sine.fin
  have lse := sine_ok he.sine.fin
  have lce := sine_ok (c := fop .add .f32 e 1048576000) he.cos.fin
  change Fl .f32 (cosC e) (cosC e) at lce
  have lcc : Fl .f32 (cosC c) (cosC c) := sine_ok (c := fop .add .f32 c 1048576000) (cos_any hc).fin
  have lsc := sine_ok (sine_ab hc).fin
  have lcf : Fl .f32 (cosC f) (cosC f) := sine_ok (c := fop .add .f32 f 1048576000) (cos_any hf).fin
  have lsf := sine_ok (sine_ab hf).fin
  have W0 := Wb.way hn he
  have KX := Hb.mk (fop_exact (P := Try.prog) (op := .mul) 22 g1.an.fin)
  have KY := Hb.mk (fop_exact (P := Try.prog) (op := .mul) 22 g1.ae.fin)
  have kX := Hb.mk (fin_notN g1.an.fin)
  have kY := Hb.mk (fin_notN g1.ae.fin)
  have KNC := Hb.mk (fun w => exactW (l02Times_any g1.N.fx g1.N.fy g1.N.fz lcc w) g1.NC.ax.fin g1.NC.ay.fin g1.NC.az.fin)
  have KMS := Hb.mk (fun w => exactW (l02Times_any g1.M.fx g1.M.fy g1.M.fz lsc w) g1.MS.ax.fin g1.MS.ay.fin g1.MS.az.fin)
  have KD := Hb.mk (fun w => exactW (cx := nD1 n e c) (cy := nD2 n e c) (cz := nD3 n c) (l02Add_any g1.NC.fx g1.NC.fy g1.NC.fz g1.MS.fx g1.MS.fy g1.MS.fz w) g1.D.ax.fin g1.D.ay.fin g1.D.az.fin)
  have KW := Hb.mk (l02Way_any f1 f2 hn he)
  have KWC := Hb.mk (fun w => exactW (l02Times_any W0.fx W0.fy W0.fz lcf w) g2.WC.ax.fin g2.WC.ay.fin g2.WC.az.fin)
  have KDS := Hb.mk (fun w => exactW (l02Times_any g1.D.fx g1.D.fy g1.D.fz lsf w) g2.DS.ax.fin g2.DS.ay.fin g2.DS.az.fin)
  have KPa := Hb.mk (fun w => exactW (cx := nP1 n e c f) (cy := nP2 n e c f) (cz := nP3 n c f) (l02Add_any g2.WC.fx g2.WC.fy g2.WC.fz g2.DS.fx g2.DS.fy g2.DS.fz w) g2.P.ax.fin g2.P.ay.fin g2.P.az.fin)
  clear g1 g2 hn he W0 hv f0
  generalize nP1 n e c f = P1 at *
  generalize nP2 n e c f = P2 at *
  generalize nP3 n c f = P3 at *
  generalize nD1 n e c = D1 at *
  generalize nD2 n e c = D2 at *
  generalize nD3 n c = D3 at *
  generalize hwx : wxC n e = wx at *
  generalize hwy : wyC n e = wy_ at *
  clear hwx hwy
  generalize cosC c = cc at *
  generalize sineC c = sc at *
  generalize cosC f = cf at *
  generalize sineC f = sf at *
  generalize cosC n = cn at *
  generalize cosC e = ce at *
  generalize sineC e = se at *
  generalize sineC n = sn at *
  generalize fop .mul .f32 sn ce = X at *
  generalize fop .mul .f32 sn se = Y at *
  have B0 := Hb.mk (Below.refl w.heap.size w)
  go_enter Try.func29, Try.ntmps29
  go_wp2_with (first | (go_at_call 54; refine (KSn.out _).mono ?_; rintro ex w1 ⟨rfl, n1, rfl⟩))
  generalize hW_U1 : World.drewN _ n1 = U1
  have c_p_0_U1 : World.cell? U1 ⟨w.heap.size, 0, none⟩ = some (.float .f32 n) := by rw [← hW_U1]; first | (simp [go_sem]; done) | (simp [go_sem]; done) | exact (World.cell?_alloc_lt _ _ _ (by omega)).trans rfl | (simp [go_sem, World.cell?_alloc_lt]; done)
  have c_p_1_U1 : World.cell? U1 ⟨w.heap.size, 1, none⟩ = some (.float .f32 e) := by rw [← hW_U1]; first | (simp [go_sem]; done) | (simp [go_sem]; done) | exact (World.cell?_alloc_lt _ _ _ (by omega)).trans rfl | (simp [go_sem, World.cell?_alloc_lt]; done)
  have l_p_U1 : w.heap.size < U1.heap.size := block_lt_of_cell c_p_0_U1
  have c_r_0_U1 : World.cell? U1 ⟨w.heap.size + 1, 0, none⟩ = some (.float .f32 0) := by rw [← hW_U1]; first | (simp [go_sem]; done) | (simp [go_sem]; done) | exact (World.cell?_alloc_lt _ _ _ (by omega)).trans rfl | (simp [go_sem, World.cell?_alloc_lt]; done)
  have z_r_0_U1 : World.frozen? U1 ⟨w.heap.size + 1, 0, none⟩ = false := by rw [← hW_U1]; first | (simp [go_sem]; done) | (simp [go_sem]; done)
  have c_r_1_U1 : World.cell? U1 ⟨w.heap.size + 1, 1, none⟩ = some (.float .f32 0) := by rw [← hW_U1]; first | (simp [go_sem]; done) | (simp [go_sem]; done) | exact (World.cell?_alloc_lt _ _ _ (by omega)).trans rfl | (simp [go_sem, World.cell?_alloc_lt]; done)
  have z_r_1_U1 : World.frozen? U1 ⟨w.heap.size + 1, 1, none⟩ = false := by rw [← hW_U1]; first | (simp [go_sem]; done) | (simp [go_sem]; done)
  have l_r_U1 : w.heap.size + 1 < U1.heap.size := block_lt_of_cell c_r_0_U1
  have B_U1 := Hb.mk (show Below w.heap.size w U1 by rw [← hW_U1]; exact (by repeat (first | with_reducible refine Below.setCell ?_ (by first | omega | (simp <;> omega)) _ | with_reducible refine Below.drews ?_ | with_reducible refine Below.drew ?_ | with_reducible refine Below.alloc ?_ (by first | omega | (simp <;> omega)) _ | with_reducible exact B0.out | with_reducible exact Below.refl _ _)))
  clear hW_U1 
  refine region_fresh (o := ?onn) 16 (by kernel_rfl) (by kernel_rfl) (by kernel_rfl) rfl rfl rfl (fun a w => ?hAnn) (fun Inn Fnn hnenn HBnn => ?hnn)
  case hAnn =>
    go_simp
    try rfl
  have kc_p_0_U1 := keepF HBnn (p := ⟨w.heap.size, 0, none⟩) (v := .float .f32 n) c_p_0_U1
  have kc_p_1_U1 := keepF HBnn (p := ⟨w.heap.size, 1, none⟩) (v := .float .f32 e) c_p_1_U1
  have kc_r_0_U1 := keepF HBnn (p := ⟨w.heap.size + 1, 0, none⟩) (v := .float .f32 0) c_r_0_U1
  have kz_r_0_U1 := keepZ HBnn (p := ⟨w.heap.size + 1, 0, none⟩) l_r_U1 z_r_0_U1
  have kc_r_1_U1 := keepF HBnn (p := ⟨w.heap.size + 1, 1, none⟩) (v := .float .f32 0) c_r_1_U1
  have kz_r_1_U1 := keepZ HBnn (p := ⟨w.heap.size + 1, 1, none⟩) l_r_U1 z_r_1_U1
  have mX := KX.out
  have mY := KY.out
  simp only [List.take_succ_cons, List.take_zero, List.drop_succ_cons, List.drop_zero]
  repeat (refine lex_step (fun K hK => ?_); go_simp; first | (refine hK _ ?_; clear hK K) | (apply Exists.intro; refine ⟨fun _ => ?_, hK _ ?_⟩; (first | (go_at_call_of 63 (Value.float .f32 e); exact callRT (KCe.out _)) | (go_at_call_of 54 (Value.float .f32 e); exact callRT (KSe.out _)) | (go_at_call_of 63 (Value.float .f32 n); exact callRT (KCn.out _))); clear hK K))
  refine lex_nil ?_
  intro inn Vnn hbnn
  have bFnn : Below (Fnn inn).heap.size (Fnn inn) Vnn := Below.on ((Below.refl _ _).alloc (Nat.le_refl _) _) hbnn (by simp)
  have c_p_0_Vnn := Below.keep bFnn (kc_p_0_U1 inn)
  have c_p_1_Vnn := Below.keep bFnn (kc_p_1_U1 inn)
  have l_p_Vnn : w.heap.size < Vnn.heap.size := block_lt_of_cell c_p_0_Vnn
  have mp_nn : w.heap.size < (Fnn inn).heap.size := block_lt_of_cell (kc_p_0_U1 inn)
  have nep_nn : w.heap.size ≠ (Fnn inn).heap.size := by omega
  have nfp_nn : (Fnn inn).heap.size ≠ w.heap.size := by omega
  have c_r_0_Vnn := Below.keep bFnn (kc_r_0_U1 inn)
  have z_r_0_Vnn : Vnn.frozen? ⟨w.heap.size + 1, 0, none⟩ = false := by rw [bFnn.frozen (block_lt_of_cell (kc_r_0_U1 inn))]; exact kz_r_0_U1 inn
  have c_r_1_Vnn := Below.keep bFnn (kc_r_1_U1 inn)
  have z_r_1_Vnn : Vnn.frozen? ⟨w.heap.size + 1, 1, none⟩ = false := by rw [bFnn.frozen (block_lt_of_cell (kc_r_1_U1 inn))]; exact kz_r_1_U1 inn
  have l_r_Vnn : w.heap.size + 1 < Vnn.heap.size := block_lt_of_cell c_r_0_Vnn
  have mr_nn : w.heap.size + 1 < (Fnn inn).heap.size := block_lt_of_cell (kc_r_0_U1 inn)
  have ner_nn : w.heap.size + 1 ≠ (Fnn inn).heap.size := by omega
  have nfr_nn : (Fnn inn).heap.size ≠ w.heap.size + 1 := by omega
  have c_nn_0_Vnn := Below.keep hbnn (p := ⟨(Fnn inn).heap.size, 0, none⟩) (v := .float .f32 0) (by simp)
  have z_nn_0_Vnn : Vnn.frozen? ⟨(Fnn inn).heap.size, 0, none⟩ = false := by rw [hbnn.frozen (by simp)]; simp
  have c_nn_1_Vnn := Below.keep hbnn (p := ⟨(Fnn inn).heap.size, 1, none⟩) (v := .float .f32 0) (by simp)
  have z_nn_1_Vnn : Vnn.frozen? ⟨(Fnn inn).heap.size, 1, none⟩ = false := by rw [hbnn.frozen (by simp)]; simp
  have c_nn_2_Vnn := Below.keep hbnn (p := ⟨(Fnn inn).heap.size, 2, none⟩) (v := .float .f32 0) (by simp)
  have z_nn_2_Vnn : Vnn.frozen? ⟨(Fnn inn).heap.size, 2, none⟩ = false := by rw [hbnn.frozen (by simp)]; simp
  have l_nn_Vnn : (Fnn inn).heap.size < Vnn.heap.size := block_lt_of_cell c_nn_0_Vnn
  have bsnn := B_U1.out.size
  have hsnn := (HBnn.out inn).size
  have qnn : w.heap.size ≤ (Fnn inn).heap.size := by omega
  have B_Vnn := Hb.mk (Below.on B_U1.out (Below.on (HBnn.out inn) bFnn hsnn) bsnn)
  generalize (Fnn inn).heap.size = Nnn at *
  clear HBnn hbnn bFnn bsnn hsnn c_p_0_U1 c_p_1_U1 kc_p_0_U1 kc_p_1_U1 l_p_U1 c_r_0_U1 c_r_1_U1 kc_r_0_U1 kc_r_1_U1 z_r_0_U1 z_r_1_U1 kz_r_0_U1 kz_r_1_U1 l_r_U1
  clear mX mY
  go_wp2
  generalize hW_U2 : World.setCell (World.setCell (World.setCell (Vnn) ⟨Nnn, 0, none⟩ (Value.float .f32 (Op.negFloat .f32 X))) ⟨Nnn, 1, none⟩ (Value.float .f32 (Op.negFloat .f32 Y))) ⟨Nnn, 2, none⟩ (Value.float .f32 cn) = U2
  have c_p_0_U2 : World.cell? U2 ⟨w.heap.size, 0, none⟩ = some (.float .f32 n) := by rw [← hW_U2]; first | (simp [go_sem, c_p_0_Vnn]; done) | (simp [go_sem, c_p_0_Vnn, nep_nn, nfp_nn, ner_nn, nfr_nn]; done) | exact (World.cell?_alloc_lt _ _ _ (by omega)).trans c_p_0_Vnn | (simp [go_sem, World.cell?_alloc_lt, c_p_0_Vnn, nep_nn, nfp_nn, ner_nn, nfr_nn]; done)
  have c_p_1_U2 : World.cell? U2 ⟨w.heap.size, 1, none⟩ = some (.float .f32 e) := by rw [← hW_U2]; first | (simp [go_sem, c_p_1_Vnn]; done) | (simp [go_sem, c_p_1_Vnn, nep_nn, nfp_nn, ner_nn, nfr_nn]; done) | exact (World.cell?_alloc_lt _ _ _ (by omega)).trans c_p_1_Vnn | (simp [go_sem, World.cell?_alloc_lt, c_p_1_Vnn, nep_nn, nfp_nn, ner_nn, nfr_nn]; done)
  have l_p_U2 : w.heap.size < U2.heap.size := block_lt_of_cell c_p_0_U2
  have c_r_0_U2 : World.cell? U2 ⟨w.heap.size + 1, 0, none⟩ = some (.float .f32 0) := by rw [← hW_U2]; first | (simp [go_sem, c_r_0_Vnn]; done) | (simp [go_sem, c_r_0_Vnn, nep_nn, nfp_nn, ner_nn, nfr_nn]; done) | exact (World.cell?_alloc_lt _ _ _ (by omega)).trans c_r_0_Vnn | (simp [go_sem, World.cell?_alloc_lt, c_r_0_Vnn, nep_nn, nfp_nn, ner_nn, nfr_nn]; done)
  have z_r_0_U2 : World.frozen? U2 ⟨w.heap.size + 1, 0, none⟩ = false := by rw [← hW_U2]; first | (simp [go_sem, z_r_0_Vnn]; done) | (simp [go_sem, z_r_0_Vnn, nep_nn, nfp_nn, ner_nn, nfr_nn]; done)
  have c_r_1_U2 : World.cell? U2 ⟨w.heap.size + 1, 1, none⟩ = some (.float .f32 0) := by rw [← hW_U2]; first | (simp [go_sem, c_r_1_Vnn]; done) | (simp [go_sem, c_r_1_Vnn, nep_nn, nfp_nn, ner_nn, nfr_nn]; done) | exact (World.cell?_alloc_lt _ _ _ (by omega)).trans c_r_1_Vnn | (simp [go_sem, World.cell?_alloc_lt, c_r_1_Vnn, nep_nn, nfp_nn, ner_nn, nfr_nn]; done)
  have z_r_1_U2 : World.frozen? U2 ⟨w.heap.size + 1, 1, none⟩ = false := by rw [← hW_U2]; first | (simp [go_sem, z_r_1_Vnn]; done) | (simp [go_sem, z_r_1_Vnn, nep_nn, nfp_nn, ner_nn, nfr_nn]; done)
  have l_r_U2 : w.heap.size + 1 < U2.heap.size := block_lt_of_cell c_r_0_U2
  have c_nn_0_U2 : World.cell? U2 ⟨Nnn, 0, none⟩ = some (Value.float .f32 (Op.negFloat .f32 X)) := by rw [← hW_U2]; first | (simp [go_sem, c_nn_0_Vnn]; done) | (simp [go_sem, c_nn_0_Vnn, nep_nn, nfp_nn, ner_nn, nfr_nn]; done) | exact (World.cell?_alloc_lt _ _ _ (by omega)).trans c_nn_0_Vnn | (simp [go_sem, World.cell?_alloc_lt, c_nn_0_Vnn, nep_nn, nfp_nn, ner_nn, nfr_nn]; done)
  have z_nn_0_U2 : World.frozen? U2 ⟨Nnn, 0, none⟩ = false := by rw [← hW_U2]; first | (simp [go_sem, z_nn_0_Vnn]; done) | (simp [go_sem, z_nn_0_Vnn, nep_nn, nfp_nn, ner_nn, nfr_nn]; done)
  have c_nn_1_U2 : World.cell? U2 ⟨Nnn, 1, none⟩ = some (Value.float .f32 (Op.negFloat .f32 Y)) := by rw [← hW_U2]; first | (simp [go_sem, c_nn_1_Vnn]; done) | (simp [go_sem, c_nn_1_Vnn, nep_nn, nfp_nn, ner_nn, nfr_nn]; done) | exact (World.cell?_alloc_lt _ _ _ (by omega)).trans c_nn_1_Vnn | (simp [go_sem, World.cell?_alloc_lt, c_nn_1_Vnn, nep_nn, nfp_nn, ner_nn, nfr_nn]; done)
  have z_nn_1_U2 : World.frozen? U2 ⟨Nnn, 1, none⟩ = false := by rw [← hW_U2]; first | (simp [go_sem, z_nn_1_Vnn]; done) | (simp [go_sem, z_nn_1_Vnn, nep_nn, nfp_nn, ner_nn, nfr_nn]; done)
  have c_nn_2_U2 : World.cell? U2 ⟨Nnn, 2, none⟩ = some (Value.float .f32 cn) := by rw [← hW_U2]; first | (simp [go_sem, c_nn_2_Vnn]; done) | (simp [go_sem, c_nn_2_Vnn, nep_nn, nfp_nn, ner_nn, nfr_nn]; done) | exact (World.cell?_alloc_lt _ _ _ (by omega)).trans c_nn_2_Vnn | (simp [go_sem, World.cell?_alloc_lt, c_nn_2_Vnn, nep_nn, nfp_nn, ner_nn, nfr_nn]; done)
  have z_nn_2_U2 : World.frozen? U2 ⟨Nnn, 2, none⟩ = false := by rw [← hW_U2]; first | (simp [go_sem, z_nn_2_Vnn]; done) | (simp [go_sem, z_nn_2_Vnn, nep_nn, nfp_nn, ner_nn, nfr_nn]; done)
  have l_nn_U2 : Nnn < U2.heap.size := block_lt_of_cell c_nn_0_U2
  have B_U2 := Hb.mk (show Below w.heap.size w U2 by rw [← hW_U2]; exact (by repeat (first | with_reducible refine Below.setCell ?_ (by first | omega | (simp <;> omega)) _ | with_reducible refine Below.drews ?_ | with_reducible refine Below.drew ?_ | with_reducible refine Below.alloc ?_ (by first | omega | (simp <;> omega)) _ | with_reducible exact B_Vnn.out | with_reducible exact Below.refl _ _)))
  clear hW_U2 c_p_0_Vnn c_p_1_Vnn l_p_Vnn c_r_0_Vnn c_r_1_Vnn z_r_0_Vnn z_r_1_Vnn l_r_Vnn c_nn_0_Vnn c_nn_1_Vnn c_nn_2_Vnn z_nn_0_Vnn z_nn_1_Vnn z_nn_2_Vnn l_nn_Vnn
  refine region_fresh (o := ?omm) 8 (by kernel_rfl) (by kernel_rfl) (by kernel_rfl) rfl rfl rfl (fun a w => ?hAmm) (fun Imm Fmm hnemm HBmm => ?hmm)
  case hAmm =>
    go_simp
    try rfl
  have kc_p_0_U2 := keepF HBmm (p := ⟨w.heap.size, 0, none⟩) (v := .float .f32 n) c_p_0_U2
  have kc_p_1_U2 := keepF HBmm (p := ⟨w.heap.size, 1, none⟩) (v := .float .f32 e) c_p_1_U2
  have kc_r_0_U2 := keepF HBmm (p := ⟨w.heap.size + 1, 0, none⟩) (v := .float .f32 0) c_r_0_U2
  have kz_r_0_U2 := keepZ HBmm (p := ⟨w.heap.size + 1, 0, none⟩) l_r_U2 z_r_0_U2
  have kc_r_1_U2 := keepF HBmm (p := ⟨w.heap.size + 1, 1, none⟩) (v := .float .f32 0) c_r_1_U2
  have kz_r_1_U2 := keepZ HBmm (p := ⟨w.heap.size + 1, 1, none⟩) l_r_U2 z_r_1_U2
  have kc_nn_0_U2 := keepF HBmm (p := ⟨Nnn, 0, none⟩) (v := Value.float .f32 (Op.negFloat .f32 X)) c_nn_0_U2
  have kz_nn_0_U2 := keepZ HBmm (p := ⟨Nnn, 0, none⟩) l_nn_U2 z_nn_0_U2
  have kc_nn_1_U2 := keepF HBmm (p := ⟨Nnn, 1, none⟩) (v := Value.float .f32 (Op.negFloat .f32 Y)) c_nn_1_U2
  have kz_nn_1_U2 := keepZ HBmm (p := ⟨Nnn, 1, none⟩) l_nn_U2 z_nn_1_U2
  have kc_nn_2_U2 := keepF HBmm (p := ⟨Nnn, 2, none⟩) (v := Value.float .f32 cn) c_nn_2_U2
  have kz_nn_2_U2 := keepZ HBmm (p := ⟨Nnn, 2, none⟩) l_nn_U2 z_nn_2_U2
  simp only [List.take_succ_cons, List.take_zero, List.drop_succ_cons, List.drop_zero]
  repeat (refine lex_step (fun K hK => ?_); go_simp; first | (refine hK _ ?_; clear hK K) | (apply Exists.intro; refine ⟨fun _ => ?_, hK _ ?_⟩; (first | (go_at_call_of 54 (Value.float .f32 e); exact callRT (KSe.out _)) | (go_at_call_of 63 (Value.float .f32 e); exact callRT (KCe.out _))); clear hK K))
  refine lex_nil ?_
  intro imm Vmm hbmm
  have bFmm : Below (Fmm imm).heap.size (Fmm imm) Vmm := Below.on ((Below.refl _ _).alloc (Nat.le_refl _) _) hbmm (by simp)
  have c_p_0_Vmm := Below.keep bFmm (kc_p_0_U2 imm)
  have c_p_1_Vmm := Below.keep bFmm (kc_p_1_U2 imm)
  have l_p_Vmm : w.heap.size < Vmm.heap.size := block_lt_of_cell c_p_0_Vmm
  have mp_mm : w.heap.size < (Fmm imm).heap.size := block_lt_of_cell (kc_p_0_U2 imm)
  have nep_mm : w.heap.size ≠ (Fmm imm).heap.size := by omega
  have nfp_mm : (Fmm imm).heap.size ≠ w.heap.size := by omega
  have c_r_0_Vmm := Below.keep bFmm (kc_r_0_U2 imm)
  have z_r_0_Vmm : Vmm.frozen? ⟨w.heap.size + 1, 0, none⟩ = false := by rw [bFmm.frozen (block_lt_of_cell (kc_r_0_U2 imm))]; exact kz_r_0_U2 imm
  have c_r_1_Vmm := Below.keep bFmm (kc_r_1_U2 imm)
  have z_r_1_Vmm : Vmm.frozen? ⟨w.heap.size + 1, 1, none⟩ = false := by rw [bFmm.frozen (block_lt_of_cell (kc_r_1_U2 imm))]; exact kz_r_1_U2 imm
  have l_r_Vmm : w.heap.size + 1 < Vmm.heap.size := block_lt_of_cell c_r_0_Vmm
  have mr_mm : w.heap.size + 1 < (Fmm imm).heap.size := block_lt_of_cell (kc_r_0_U2 imm)
  have ner_mm : w.heap.size + 1 ≠ (Fmm imm).heap.size := by omega
  have nfr_mm : (Fmm imm).heap.size ≠ w.heap.size + 1 := by omega
  have c_nn_0_Vmm := Below.keep bFmm (kc_nn_0_U2 imm)
  have z_nn_0_Vmm : Vmm.frozen? ⟨Nnn, 0, none⟩ = false := by rw [bFmm.frozen (block_lt_of_cell (kc_nn_0_U2 imm))]; exact kz_nn_0_U2 imm
  have c_nn_1_Vmm := Below.keep bFmm (kc_nn_1_U2 imm)
  have z_nn_1_Vmm : Vmm.frozen? ⟨Nnn, 1, none⟩ = false := by rw [bFmm.frozen (block_lt_of_cell (kc_nn_1_U2 imm))]; exact kz_nn_1_U2 imm
  have c_nn_2_Vmm := Below.keep bFmm (kc_nn_2_U2 imm)
  have z_nn_2_Vmm : Vmm.frozen? ⟨Nnn, 2, none⟩ = false := by rw [bFmm.frozen (block_lt_of_cell (kc_nn_2_U2 imm))]; exact kz_nn_2_U2 imm
  have l_nn_Vmm : Nnn < Vmm.heap.size := block_lt_of_cell c_nn_0_Vmm
  have mnn_mm : Nnn < (Fmm imm).heap.size := block_lt_of_cell (kc_nn_0_U2 imm)
  have nenn_mm : Nnn ≠ (Fmm imm).heap.size := by omega
  have nfnn_mm : (Fmm imm).heap.size ≠ Nnn := by omega
  have c_mm_0_Vmm := Below.keep hbmm (p := ⟨(Fmm imm).heap.size, 0, none⟩) (v := .float .f32 0) (by simp)
  have z_mm_0_Vmm : Vmm.frozen? ⟨(Fmm imm).heap.size, 0, none⟩ = false := by rw [hbmm.frozen (by simp)]; simp
  have c_mm_1_Vmm := Below.keep hbmm (p := ⟨(Fmm imm).heap.size, 1, none⟩) (v := .float .f32 0) (by simp)
  have z_mm_1_Vmm : Vmm.frozen? ⟨(Fmm imm).heap.size, 1, none⟩ = false := by rw [hbmm.frozen (by simp)]; simp
  have c_mm_2_Vmm := Below.keep hbmm (p := ⟨(Fmm imm).heap.size, 2, none⟩) (v := .float .f32 0) (by simp)
  have z_mm_2_Vmm : Vmm.frozen? ⟨(Fmm imm).heap.size, 2, none⟩ = false := by rw [hbmm.frozen (by simp)]; simp
  have l_mm_Vmm : (Fmm imm).heap.size < Vmm.heap.size := block_lt_of_cell c_mm_0_Vmm
  have bsmm := B_U2.out.size
  have hsmm := (HBmm.out imm).size
  have qmm : w.heap.size ≤ (Fmm imm).heap.size := by omega
  have B_Vmm := Hb.mk (Below.on B_U2.out (Below.on (HBmm.out imm) bFmm hsmm) bsmm)
  generalize (Fmm imm).heap.size = Nmm at *
  clear HBmm hbmm bFmm bsmm hsmm c_p_0_U2 c_p_1_U2 kc_p_0_U2 kc_p_1_U2 l_p_U2 c_r_0_U2 c_r_1_U2 kc_r_0_U2 kc_r_1_U2 z_r_0_U2 z_r_1_U2 kz_r_0_U2 kz_r_1_U2 l_r_U2 c_nn_0_U2 c_nn_1_U2 c_nn_2_U2 kc_nn_0_U2 kc_nn_1_U2 kc_nn_2_U2 z_nn_0_U2 z_nn_1_U2 z_nn_2_U2 kz_nn_0_U2 kz_nn_1_U2 kz_nn_2_U2 l_nn_U2
  go_wp2
  generalize hW_U3 : World.setCell (World.setCell (World.setCell (Vmm) ⟨Nmm, 0, none⟩ (Value.float .f32 (Op.negFloat .f32 se))) ⟨Nmm, 1, none⟩ (Value.float .f32 ce)) ⟨Nmm, 2, none⟩ (Value.float .f32 0) = U3
  have c_p_0_U3 : World.cell? U3 ⟨w.heap.size, 0, none⟩ = some (.float .f32 n) := by rw [← hW_U3]; first | (simp [go_sem, c_p_0_Vmm]; done) | (simp [go_sem, c_p_0_Vmm, nep_nn, nfp_nn, ner_nn, nfr_nn, nep_mm, nfp_mm, ner_mm, nfr_mm, nenn_mm, nfnn_mm]; done) | exact (World.cell?_alloc_lt _ _ _ (by omega)).trans c_p_0_Vmm | (simp [go_sem, World.cell?_alloc_lt, c_p_0_Vmm, nep_nn, nfp_nn, ner_nn, nfr_nn, nep_mm, nfp_mm, ner_mm, nfr_mm, nenn_mm, nfnn_mm]; done)
  have c_p_1_U3 : World.cell? U3 ⟨w.heap.size, 1, none⟩ = some (.float .f32 e) := by rw [← hW_U3]; first | (simp [go_sem, c_p_1_Vmm]; done) | (simp [go_sem, c_p_1_Vmm, nep_nn, nfp_nn, ner_nn, nfr_nn, nep_mm, nfp_mm, ner_mm, nfr_mm, nenn_mm, nfnn_mm]; done) | exact (World.cell?_alloc_lt _ _ _ (by omega)).trans c_p_1_Vmm | (simp [go_sem, World.cell?_alloc_lt, c_p_1_Vmm, nep_nn, nfp_nn, ner_nn, nfr_nn, nep_mm, nfp_mm, ner_mm, nfr_mm, nenn_mm, nfnn_mm]; done)
  have l_p_U3 : w.heap.size < U3.heap.size := block_lt_of_cell c_p_0_U3
  have c_r_0_U3 : World.cell? U3 ⟨w.heap.size + 1, 0, none⟩ = some (.float .f32 0) := by rw [← hW_U3]; first | (simp [go_sem, c_r_0_Vmm]; done) | (simp [go_sem, c_r_0_Vmm, nep_nn, nfp_nn, ner_nn, nfr_nn, nep_mm, nfp_mm, ner_mm, nfr_mm, nenn_mm, nfnn_mm]; done) | exact (World.cell?_alloc_lt _ _ _ (by omega)).trans c_r_0_Vmm | (simp [go_sem, World.cell?_alloc_lt, c_r_0_Vmm, nep_nn, nfp_nn, ner_nn, nfr_nn, nep_mm, nfp_mm, ner_mm, nfr_mm, nenn_mm, nfnn_mm]; done)
  have z_r_0_U3 : World.frozen? U3 ⟨w.heap.size + 1, 0, none⟩ = false := by rw [← hW_U3]; first | (simp [go_sem, z_r_0_Vmm]; done) | (simp [go_sem, z_r_0_Vmm, nep_nn, nfp_nn, ner_nn, nfr_nn, nep_mm, nfp_mm, ner_mm, nfr_mm, nenn_mm, nfnn_mm]; done)
  have c_r_1_U3 : World.cell? U3 ⟨w.heap.size + 1, 1, none⟩ = some (.float .f32 0) := by rw [← hW_U3]; first | (simp [go_sem, c_r_1_Vmm]; done) | (simp [go_sem, c_r_1_Vmm, nep_nn, nfp_nn, ner_nn, nfr_nn, nep_mm, nfp_mm, ner_mm, nfr_mm, nenn_mm, nfnn_mm]; done) | exact (World.cell?_alloc_lt _ _ _ (by omega)).trans c_r_1_Vmm | (simp [go_sem, World.cell?_alloc_lt, c_r_1_Vmm, nep_nn, nfp_nn, ner_nn, nfr_nn, nep_mm, nfp_mm, ner_mm, nfr_mm, nenn_mm, nfnn_mm]; done)
  have z_r_1_U3 : World.frozen? U3 ⟨w.heap.size + 1, 1, none⟩ = false := by rw [← hW_U3]; first | (simp [go_sem, z_r_1_Vmm]; done) | (simp [go_sem, z_r_1_Vmm, nep_nn, nfp_nn, ner_nn, nfr_nn, nep_mm, nfp_mm, ner_mm, nfr_mm, nenn_mm, nfnn_mm]; done)
  have l_r_U3 : w.heap.size + 1 < U3.heap.size := block_lt_of_cell c_r_0_U3
  have c_nn_0_U3 : World.cell? U3 ⟨Nnn, 0, none⟩ = some (Value.float .f32 (Op.negFloat .f32 X)) := by rw [← hW_U3]; first | (simp [go_sem, c_nn_0_Vmm]; done) | (simp [go_sem, c_nn_0_Vmm, nep_nn, nfp_nn, ner_nn, nfr_nn, nep_mm, nfp_mm, ner_mm, nfr_mm, nenn_mm, nfnn_mm]; done) | exact (World.cell?_alloc_lt _ _ _ (by omega)).trans c_nn_0_Vmm | (simp [go_sem, World.cell?_alloc_lt, c_nn_0_Vmm, nep_nn, nfp_nn, ner_nn, nfr_nn, nep_mm, nfp_mm, ner_mm, nfr_mm, nenn_mm, nfnn_mm]; done)
  have z_nn_0_U3 : World.frozen? U3 ⟨Nnn, 0, none⟩ = false := by rw [← hW_U3]; first | (simp [go_sem, z_nn_0_Vmm]; done) | (simp [go_sem, z_nn_0_Vmm, nep_nn, nfp_nn, ner_nn, nfr_nn, nep_mm, nfp_mm, ner_mm, nfr_mm, nenn_mm, nfnn_mm]; done)
  have c_nn_1_U3 : World.cell? U3 ⟨Nnn, 1, none⟩ = some (Value.float .f32 (Op.negFloat .f32 Y)) := by rw [← hW_U3]; first | (simp [go_sem, c_nn_1_Vmm]; done) | (simp [go_sem, c_nn_1_Vmm, nep_nn, nfp_nn, ner_nn, nfr_nn, nep_mm, nfp_mm, ner_mm, nfr_mm, nenn_mm, nfnn_mm]; done) | exact (World.cell?_alloc_lt _ _ _ (by omega)).trans c_nn_1_Vmm | (simp [go_sem, World.cell?_alloc_lt, c_nn_1_Vmm, nep_nn, nfp_nn, ner_nn, nfr_nn, nep_mm, nfp_mm, ner_mm, nfr_mm, nenn_mm, nfnn_mm]; done)
  have z_nn_1_U3 : World.frozen? U3 ⟨Nnn, 1, none⟩ = false := by rw [← hW_U3]; first | (simp [go_sem, z_nn_1_Vmm]; done) | (simp [go_sem, z_nn_1_Vmm, nep_nn, nfp_nn, ner_nn, nfr_nn, nep_mm, nfp_mm, ner_mm, nfr_mm, nenn_mm, nfnn_mm]; done)
  have c_nn_2_U3 : World.cell? U3 ⟨Nnn, 2, none⟩ = some (Value.float .f32 cn) := by rw [← hW_U3]; first | (simp [go_sem, c_nn_2_Vmm]; done) | (simp [go_sem, c_nn_2_Vmm, nep_nn, nfp_nn, ner_nn, nfr_nn, nep_mm, nfp_mm, ner_mm, nfr_mm, nenn_mm, nfnn_mm]; done) | exact (World.cell?_alloc_lt _ _ _ (by omega)).trans c_nn_2_Vmm | (simp [go_sem, World.cell?_alloc_lt, c_nn_2_Vmm, nep_nn, nfp_nn, ner_nn, nfr_nn, nep_mm, nfp_mm, ner_mm, nfr_mm, nenn_mm, nfnn_mm]; done)
  have z_nn_2_U3 : World.frozen? U3 ⟨Nnn, 2, none⟩ = false := by rw [← hW_U3]; first | (simp [go_sem, z_nn_2_Vmm]; done) | (simp [go_sem, z_nn_2_Vmm, nep_nn, nfp_nn, ner_nn, nfr_nn, nep_mm, nfp_mm, ner_mm, nfr_mm, nenn_mm, nfnn_mm]; done)
  have l_nn_U3 : Nnn < U3.heap.size := block_lt_of_cell c_nn_0_U3
  have c_mm_0_U3 : World.cell? U3 ⟨Nmm, 0, none⟩ = some (Value.float .f32 (Op.negFloat .f32 se)) := by rw [← hW_U3]; first | (simp [go_sem, c_mm_0_Vmm]; done) | (simp [go_sem, c_mm_0_Vmm, nep_nn, nfp_nn, ner_nn, nfr_nn, nep_mm, nfp_mm, ner_mm, nfr_mm, nenn_mm, nfnn_mm]; done) | exact (World.cell?_alloc_lt _ _ _ (by omega)).trans c_mm_0_Vmm | (simp [go_sem, World.cell?_alloc_lt, c_mm_0_Vmm, nep_nn, nfp_nn, ner_nn, nfr_nn, nep_mm, nfp_mm, ner_mm, nfr_mm, nenn_mm, nfnn_mm]; done)
  have z_mm_0_U3 : World.frozen? U3 ⟨Nmm, 0, none⟩ = false := by rw [← hW_U3]; first | (simp [go_sem, z_mm_0_Vmm]; done) | (simp [go_sem, z_mm_0_Vmm, nep_nn, nfp_nn, ner_nn, nfr_nn, nep_mm, nfp_mm, ner_mm, nfr_mm, nenn_mm, nfnn_mm]; done)
  have c_mm_1_U3 : World.cell? U3 ⟨Nmm, 1, none⟩ = some (Value.float .f32 ce) := by rw [← hW_U3]; first | (simp [go_sem, c_mm_1_Vmm]; done) | (simp [go_sem, c_mm_1_Vmm, nep_nn, nfp_nn, ner_nn, nfr_nn, nep_mm, nfp_mm, ner_mm, nfr_mm, nenn_mm, nfnn_mm]; done) | exact (World.cell?_alloc_lt _ _ _ (by omega)).trans c_mm_1_Vmm | (simp [go_sem, World.cell?_alloc_lt, c_mm_1_Vmm, nep_nn, nfp_nn, ner_nn, nfr_nn, nep_mm, nfp_mm, ner_mm, nfr_mm, nenn_mm, nfnn_mm]; done)
  have z_mm_1_U3 : World.frozen? U3 ⟨Nmm, 1, none⟩ = false := by rw [← hW_U3]; first | (simp [go_sem, z_mm_1_Vmm]; done) | (simp [go_sem, z_mm_1_Vmm, nep_nn, nfp_nn, ner_nn, nfr_nn, nep_mm, nfp_mm, ner_mm, nfr_mm, nenn_mm, nfnn_mm]; done)
  have c_mm_2_U3 : World.cell? U3 ⟨Nmm, 2, none⟩ = some (Value.float .f32 0) := by rw [← hW_U3]; first | (simp [go_sem, c_mm_2_Vmm]; done) | (simp [go_sem, c_mm_2_Vmm, nep_nn, nfp_nn, ner_nn, nfr_nn, nep_mm, nfp_mm, ner_mm, nfr_mm, nenn_mm, nfnn_mm]; done) | exact (World.cell?_alloc_lt _ _ _ (by omega)).trans c_mm_2_Vmm | (simp [go_sem, World.cell?_alloc_lt, c_mm_2_Vmm, nep_nn, nfp_nn, ner_nn, nfr_nn, nep_mm, nfp_mm, ner_mm, nfr_mm, nenn_mm, nfnn_mm]; done)
  have z_mm_2_U3 : World.frozen? U3 ⟨Nmm, 2, none⟩ = false := by rw [← hW_U3]; first | (simp [go_sem, z_mm_2_Vmm]; done) | (simp [go_sem, z_mm_2_Vmm, nep_nn, nfp_nn, ner_nn, nfr_nn, nep_mm, nfp_mm, ner_mm, nfr_mm, nenn_mm, nfnn_mm]; done)
  have l_mm_U3 : Nmm < U3.heap.size := block_lt_of_cell c_mm_0_U3
  have B_U3 := Hb.mk (show Below w.heap.size w U3 by rw [← hW_U3]; exact (by repeat (first | with_reducible refine Below.setCell ?_ (by first | omega | (simp <;> omega)) _ | with_reducible refine Below.drews ?_ | with_reducible refine Below.drew ?_ | with_reducible refine Below.alloc ?_ (by first | omega | (simp <;> omega)) _ | with_reducible exact B_Vmm.out | with_reducible exact Below.refl _ _)))
  clear hW_U3 c_p_0_Vmm c_p_1_Vmm l_p_Vmm c_r_0_Vmm c_r_1_Vmm z_r_0_Vmm z_r_1_Vmm l_r_Vmm c_nn_0_Vmm c_nn_1_Vmm c_nn_2_Vmm z_nn_0_Vmm z_nn_1_Vmm z_nn_2_Vmm l_nn_Vmm c_mm_0_Vmm c_mm_1_Vmm c_mm_2_Vmm z_mm_0_Vmm z_mm_1_Vmm z_mm_2_Vmm l_mm_Vmm
  refine region_fresh (o := ?odd) 9 (by kernel_rfl) (by kernel_rfl) (by kernel_rfl) rfl rfl rfl (fun a w => ?hAdd) (fun Idd Fdd hnedd HBdd => ?hdd)
  case hAdd =>
    go_simp
    try rfl
  have kc_p_0_U3 := keepF HBdd (p := ⟨w.heap.size, 0, none⟩) (v := .float .f32 n) c_p_0_U3
  have kc_p_1_U3 := keepF HBdd (p := ⟨w.heap.size, 1, none⟩) (v := .float .f32 e) c_p_1_U3
  have kc_r_0_U3 := keepF HBdd (p := ⟨w.heap.size + 1, 0, none⟩) (v := .float .f32 0) c_r_0_U3
  have kz_r_0_U3 := keepZ HBdd (p := ⟨w.heap.size + 1, 0, none⟩) l_r_U3 z_r_0_U3
  have kc_r_1_U3 := keepF HBdd (p := ⟨w.heap.size + 1, 1, none⟩) (v := .float .f32 0) c_r_1_U3
  have kz_r_1_U3 := keepZ HBdd (p := ⟨w.heap.size + 1, 1, none⟩) l_r_U3 z_r_1_U3
  have kc_nn_0_U3 := keepF HBdd (p := ⟨Nnn, 0, none⟩) (v := Value.float .f32 (Op.negFloat .f32 X)) c_nn_0_U3
  have kz_nn_0_U3 := keepZ HBdd (p := ⟨Nnn, 0, none⟩) l_nn_U3 z_nn_0_U3
  have kc_nn_1_U3 := keepF HBdd (p := ⟨Nnn, 1, none⟩) (v := Value.float .f32 (Op.negFloat .f32 Y)) c_nn_1_U3
  have kz_nn_1_U3 := keepZ HBdd (p := ⟨Nnn, 1, none⟩) l_nn_U3 z_nn_1_U3
  have kc_nn_2_U3 := keepF HBdd (p := ⟨Nnn, 2, none⟩) (v := Value.float .f32 cn) c_nn_2_U3
  have kz_nn_2_U3 := keepZ HBdd (p := ⟨Nnn, 2, none⟩) l_nn_U3 z_nn_2_U3
  have kc_mm_0_U3 := keepF HBdd (p := ⟨Nmm, 0, none⟩) (v := Value.float .f32 (Op.negFloat .f32 se)) c_mm_0_U3
  have kz_mm_0_U3 := keepZ HBdd (p := ⟨Nmm, 0, none⟩) l_mm_U3 z_mm_0_U3
  have kc_mm_1_U3 := keepF HBdd (p := ⟨Nmm, 1, none⟩) (v := Value.float .f32 ce) c_mm_1_U3
  have kz_mm_1_U3 := keepZ HBdd (p := ⟨Nmm, 1, none⟩) l_mm_U3 z_mm_1_U3
  have kc_mm_2_U3 := keepF HBdd (p := ⟨Nmm, 2, none⟩) (v := Value.float .f32 0) c_mm_2_U3
  have kz_mm_2_U3 := keepZ HBdd (p := ⟨Nmm, 2, none⟩) l_mm_U3 z_mm_2_U3
  simp only [List.take_succ_cons, List.take_zero, List.drop_succ_cons, List.drop_zero]
  repeat (refine lex_step (fun K hK => ?_); go_simp; first | (refine hK _ ?_; clear hK K) | (apply Exists.intro; refine ⟨fun _ => ?_, hK _ ?_⟩; (first | (go_at_call_of 63 (Value.float .f32 c); exact callRT (KCc.out _)) | (go_at_call_of 54 (Value.float .f32 c); exact callRT (KSc.out _)) | (go_at_call_of 65 (Value.float .f32 cc); exact callR (KNC.out _)) | (go_at_call_of 65 (Value.float .f32 sc); exact callR (KMS.out _)) | (go_at_call 64; exact callR (KD.out _))); clear hK K))
  refine lex_nil ?_
  intro idd Vdd hbdd
  have bFdd : Below (Fdd idd).heap.size (Fdd idd) Vdd := Below.on ((Below.refl _ _).alloc (Nat.le_refl _) _) hbdd (by simp)
  have c_p_0_Vdd := Below.keep bFdd (kc_p_0_U3 idd)
  have c_p_1_Vdd := Below.keep bFdd (kc_p_1_U3 idd)
  have l_p_Vdd : w.heap.size < Vdd.heap.size := block_lt_of_cell c_p_0_Vdd
  have mp_dd : w.heap.size < (Fdd idd).heap.size := block_lt_of_cell (kc_p_0_U3 idd)
  have nep_dd : w.heap.size ≠ (Fdd idd).heap.size := by omega
  have nfp_dd : (Fdd idd).heap.size ≠ w.heap.size := by omega
  have c_r_0_Vdd := Below.keep bFdd (kc_r_0_U3 idd)
  have z_r_0_Vdd : Vdd.frozen? ⟨w.heap.size + 1, 0, none⟩ = false := by rw [bFdd.frozen (block_lt_of_cell (kc_r_0_U3 idd))]; exact kz_r_0_U3 idd
  have c_r_1_Vdd := Below.keep bFdd (kc_r_1_U3 idd)
  have z_r_1_Vdd : Vdd.frozen? ⟨w.heap.size + 1, 1, none⟩ = false := by rw [bFdd.frozen (block_lt_of_cell (kc_r_1_U3 idd))]; exact kz_r_1_U3 idd
  have l_r_Vdd : w.heap.size + 1 < Vdd.heap.size := block_lt_of_cell c_r_0_Vdd
  have mr_dd : w.heap.size + 1 < (Fdd idd).heap.size := block_lt_of_cell (kc_r_0_U3 idd)
  have ner_dd : w.heap.size + 1 ≠ (Fdd idd).heap.size := by omega
  have nfr_dd : (Fdd idd).heap.size ≠ w.heap.size + 1 := by omega
  have c_nn_0_Vdd := Below.keep bFdd (kc_nn_0_U3 idd)
  have z_nn_0_Vdd : Vdd.frozen? ⟨Nnn, 0, none⟩ = false := by rw [bFdd.frozen (block_lt_of_cell (kc_nn_0_U3 idd))]; exact kz_nn_0_U3 idd
  have c_nn_1_Vdd := Below.keep bFdd (kc_nn_1_U3 idd)
  have z_nn_1_Vdd : Vdd.frozen? ⟨Nnn, 1, none⟩ = false := by rw [bFdd.frozen (block_lt_of_cell (kc_nn_1_U3 idd))]; exact kz_nn_1_U3 idd
  have c_nn_2_Vdd := Below.keep bFdd (kc_nn_2_U3 idd)
  have z_nn_2_Vdd : Vdd.frozen? ⟨Nnn, 2, none⟩ = false := by rw [bFdd.frozen (block_lt_of_cell (kc_nn_2_U3 idd))]; exact kz_nn_2_U3 idd
  have l_nn_Vdd : Nnn < Vdd.heap.size := block_lt_of_cell c_nn_0_Vdd
  have mnn_dd : Nnn < (Fdd idd).heap.size := block_lt_of_cell (kc_nn_0_U3 idd)
  have nenn_dd : Nnn ≠ (Fdd idd).heap.size := by omega
  have nfnn_dd : (Fdd idd).heap.size ≠ Nnn := by omega
  have c_mm_0_Vdd := Below.keep bFdd (kc_mm_0_U3 idd)
  have z_mm_0_Vdd : Vdd.frozen? ⟨Nmm, 0, none⟩ = false := by rw [bFdd.frozen (block_lt_of_cell (kc_mm_0_U3 idd))]; exact kz_mm_0_U3 idd
  have c_mm_1_Vdd := Below.keep bFdd (kc_mm_1_U3 idd)
  have z_mm_1_Vdd : Vdd.frozen? ⟨Nmm, 1, none⟩ = false := by rw [bFdd.frozen (block_lt_of_cell (kc_mm_1_U3 idd))]; exact kz_mm_1_U3 idd
  have c_mm_2_Vdd := Below.keep bFdd (kc_mm_2_U3 idd)
  have z_mm_2_Vdd : Vdd.frozen? ⟨Nmm, 2, none⟩ = false := by rw [bFdd.frozen (block_lt_of_cell (kc_mm_2_U3 idd))]; exact kz_mm_2_U3 idd
  have l_mm_Vdd : Nmm < Vdd.heap.size := block_lt_of_cell c_mm_0_Vdd
  have mmm_dd : Nmm < (Fdd idd).heap.size := block_lt_of_cell (kc_mm_0_U3 idd)
  have nemm_dd : Nmm ≠ (Fdd idd).heap.size := by omega
  have nfmm_dd : (Fdd idd).heap.size ≠ Nmm := by omega
  have c_dd_0_Vdd := Below.keep hbdd (p := ⟨(Fdd idd).heap.size, 0, none⟩) (v := .float .f32 0) (by simp)
  have z_dd_0_Vdd : Vdd.frozen? ⟨(Fdd idd).heap.size, 0, none⟩ = false := by rw [hbdd.frozen (by simp)]; simp
  have c_dd_1_Vdd := Below.keep hbdd (p := ⟨(Fdd idd).heap.size, 1, none⟩) (v := .float .f32 0) (by simp)
  have z_dd_1_Vdd : Vdd.frozen? ⟨(Fdd idd).heap.size, 1, none⟩ = false := by rw [hbdd.frozen (by simp)]; simp
  have c_dd_2_Vdd := Below.keep hbdd (p := ⟨(Fdd idd).heap.size, 2, none⟩) (v := .float .f32 0) (by simp)
  have z_dd_2_Vdd : Vdd.frozen? ⟨(Fdd idd).heap.size, 2, none⟩ = false := by rw [hbdd.frozen (by simp)]; simp
  have l_dd_Vdd : (Fdd idd).heap.size < Vdd.heap.size := block_lt_of_cell c_dd_0_Vdd
  have bsdd := B_U3.out.size
  have hsdd := (HBdd.out idd).size
  have qdd : w.heap.size ≤ (Fdd idd).heap.size := by omega
  have B_Vdd := Hb.mk (Below.on B_U3.out (Below.on (HBdd.out idd) bFdd hsdd) bsdd)
  generalize (Fdd idd).heap.size = Ndd at *
  clear HBdd hbdd bFdd bsdd hsdd c_p_0_U3 c_p_1_U3 kc_p_0_U3 kc_p_1_U3 l_p_U3 c_r_0_U3 c_r_1_U3 kc_r_0_U3 kc_r_1_U3 z_r_0_U3 z_r_1_U3 kz_r_0_U3 kz_r_1_U3 l_r_U3 c_nn_0_U3 c_nn_1_U3 c_nn_2_U3 kc_nn_0_U3 kc_nn_1_U3 kc_nn_2_U3 z_nn_0_U3 z_nn_1_U3 z_nn_2_U3 kz_nn_0_U3 kz_nn_1_U3 kz_nn_2_U3 l_nn_U3 c_mm_0_U3 c_mm_1_U3 c_mm_2_U3 kc_mm_0_U3 kc_mm_1_U3 kc_mm_2_U3 z_mm_0_U3 z_mm_1_U3 z_mm_2_U3 kz_mm_0_U3 kz_mm_1_U3 kz_mm_2_U3 l_mm_U3
  go_wp2
  generalize hW_U4 : World.setCell (World.setCell (World.setCell (Vdd) ⟨Ndd, 0, none⟩ (Value.float .f32 D1)) ⟨Ndd, 1, none⟩ (Value.float .f32 D2)) ⟨Ndd, 2, none⟩ (Value.float .f32 D3) = U4
  have c_p_0_U4 : World.cell? U4 ⟨w.heap.size, 0, none⟩ = some (.float .f32 n) := by rw [← hW_U4]; first | (simp [go_sem, c_p_0_Vdd]; done) | (simp [go_sem, c_p_0_Vdd, nep_nn, nfp_nn, ner_nn, nfr_nn, nep_mm, nfp_mm, ner_mm, nfr_mm, nenn_mm, nfnn_mm, nep_dd, nfp_dd, ner_dd, nfr_dd, nenn_dd, nfnn_dd, nemm_dd, nfmm_dd]; done) | exact (World.cell?_alloc_lt _ _ _ (by omega)).trans c_p_0_Vdd | (simp [go_sem, World.cell?_alloc_lt, c_p_0_Vdd, nep_nn, nfp_nn, ner_nn, nfr_nn, nep_mm, nfp_mm, ner_mm, nfr_mm, nenn_mm, nfnn_mm, nep_dd, nfp_dd, ner_dd, nfr_dd, nenn_dd, nfnn_dd, nemm_dd, nfmm_dd]; done)
  have c_p_1_U4 : World.cell? U4 ⟨w.heap.size, 1, none⟩ = some (.float .f32 e) := by rw [← hW_U4]; first | (simp [go_sem, c_p_1_Vdd]; done) | (simp [go_sem, c_p_1_Vdd, nep_nn, nfp_nn, ner_nn, nfr_nn, nep_mm, nfp_mm, ner_mm, nfr_mm, nenn_mm, nfnn_mm, nep_dd, nfp_dd, ner_dd, nfr_dd, nenn_dd, nfnn_dd, nemm_dd, nfmm_dd]; done) | exact (World.cell?_alloc_lt _ _ _ (by omega)).trans c_p_1_Vdd | (simp [go_sem, World.cell?_alloc_lt, c_p_1_Vdd, nep_nn, nfp_nn, ner_nn, nfr_nn, nep_mm, nfp_mm, ner_mm, nfr_mm, nenn_mm, nfnn_mm, nep_dd, nfp_dd, ner_dd, nfr_dd, nenn_dd, nfnn_dd, nemm_dd, nfmm_dd]; done)
  have l_p_U4 : w.heap.size < U4.heap.size := block_lt_of_cell c_p_0_U4
  have c_r_0_U4 : World.cell? U4 ⟨w.heap.size + 1, 0, none⟩ = some (.float .f32 0) := by rw [← hW_U4]; first | (simp [go_sem, c_r_0_Vdd]; done) | (simp [go_sem, c_r_0_Vdd, nep_nn, nfp_nn, ner_nn, nfr_nn, nep_mm, nfp_mm, ner_mm, nfr_mm, nenn_mm, nfnn_mm, nep_dd, nfp_dd, ner_dd, nfr_dd, nenn_dd, nfnn_dd, nemm_dd, nfmm_dd]; done) | exact (World.cell?_alloc_lt _ _ _ (by omega)).trans c_r_0_Vdd | (simp [go_sem, World.cell?_alloc_lt, c_r_0_Vdd, nep_nn, nfp_nn, ner_nn, nfr_nn, nep_mm, nfp_mm, ner_mm, nfr_mm, nenn_mm, nfnn_mm, nep_dd, nfp_dd, ner_dd, nfr_dd, nenn_dd, nfnn_dd, nemm_dd, nfmm_dd]; done)
  have z_r_0_U4 : World.frozen? U4 ⟨w.heap.size + 1, 0, none⟩ = false := by rw [← hW_U4]; first | (simp [go_sem, z_r_0_Vdd]; done) | (simp [go_sem, z_r_0_Vdd, nep_nn, nfp_nn, ner_nn, nfr_nn, nep_mm, nfp_mm, ner_mm, nfr_mm, nenn_mm, nfnn_mm, nep_dd, nfp_dd, ner_dd, nfr_dd, nenn_dd, nfnn_dd, nemm_dd, nfmm_dd]; done)
  have c_r_1_U4 : World.cell? U4 ⟨w.heap.size + 1, 1, none⟩ = some (.float .f32 0) := by rw [← hW_U4]; first | (simp [go_sem, c_r_1_Vdd]; done) | (simp [go_sem, c_r_1_Vdd, nep_nn, nfp_nn, ner_nn, nfr_nn, nep_mm, nfp_mm, ner_mm, nfr_mm, nenn_mm, nfnn_mm, nep_dd, nfp_dd, ner_dd, nfr_dd, nenn_dd, nfnn_dd, nemm_dd, nfmm_dd]; done) | exact (World.cell?_alloc_lt _ _ _ (by omega)).trans c_r_1_Vdd | (simp [go_sem, World.cell?_alloc_lt, c_r_1_Vdd, nep_nn, nfp_nn, ner_nn, nfr_nn, nep_mm, nfp_mm, ner_mm, nfr_mm, nenn_mm, nfnn_mm, nep_dd, nfp_dd, ner_dd, nfr_dd, nenn_dd, nfnn_dd, nemm_dd, nfmm_dd]; done)
  have z_r_1_U4 : World.frozen? U4 ⟨w.heap.size + 1, 1, none⟩ = false := by rw [← hW_U4]; first | (simp [go_sem, z_r_1_Vdd]; done) | (simp [go_sem, z_r_1_Vdd, nep_nn, nfp_nn, ner_nn, nfr_nn, nep_mm, nfp_mm, ner_mm, nfr_mm, nenn_mm, nfnn_mm, nep_dd, nfp_dd, ner_dd, nfr_dd, nenn_dd, nfnn_dd, nemm_dd, nfmm_dd]; done)
  have l_r_U4 : w.heap.size + 1 < U4.heap.size := block_lt_of_cell c_r_0_U4
  have c_nn_0_U4 : World.cell? U4 ⟨Nnn, 0, none⟩ = some (Value.float .f32 (Op.negFloat .f32 X)) := by rw [← hW_U4]; first | (simp [go_sem, c_nn_0_Vdd]; done) | (simp [go_sem, c_nn_0_Vdd, nep_nn, nfp_nn, ner_nn, nfr_nn, nep_mm, nfp_mm, ner_mm, nfr_mm, nenn_mm, nfnn_mm, nep_dd, nfp_dd, ner_dd, nfr_dd, nenn_dd, nfnn_dd, nemm_dd, nfmm_dd]; done) | exact (World.cell?_alloc_lt _ _ _ (by omega)).trans c_nn_0_Vdd | (simp [go_sem, World.cell?_alloc_lt, c_nn_0_Vdd, nep_nn, nfp_nn, ner_nn, nfr_nn, nep_mm, nfp_mm, ner_mm, nfr_mm, nenn_mm, nfnn_mm, nep_dd, nfp_dd, ner_dd, nfr_dd, nenn_dd, nfnn_dd, nemm_dd, nfmm_dd]; done)
  have z_nn_0_U4 : World.frozen? U4 ⟨Nnn, 0, none⟩ = false := by rw [← hW_U4]; first | (simp [go_sem, z_nn_0_Vdd]; done) | (simp [go_sem, z_nn_0_Vdd, nep_nn, nfp_nn, ner_nn, nfr_nn, nep_mm, nfp_mm, ner_mm, nfr_mm, nenn_mm, nfnn_mm, nep_dd, nfp_dd, ner_dd, nfr_dd, nenn_dd, nfnn_dd, nemm_dd, nfmm_dd]; done)
  have c_nn_1_U4 : World.cell? U4 ⟨Nnn, 1, none⟩ = some (Value.float .f32 (Op.negFloat .f32 Y)) := by rw [← hW_U4]; first | (simp [go_sem, c_nn_1_Vdd]; done) | (simp [go_sem, c_nn_1_Vdd, nep_nn, nfp_nn, ner_nn, nfr_nn, nep_mm, nfp_mm, ner_mm, nfr_mm, nenn_mm, nfnn_mm, nep_dd, nfp_dd, ner_dd, nfr_dd, nenn_dd, nfnn_dd, nemm_dd, nfmm_dd]; done) | exact (World.cell?_alloc_lt _ _ _ (by omega)).trans c_nn_1_Vdd | (simp [go_sem, World.cell?_alloc_lt, c_nn_1_Vdd, nep_nn, nfp_nn, ner_nn, nfr_nn, nep_mm, nfp_mm, ner_mm, nfr_mm, nenn_mm, nfnn_mm, nep_dd, nfp_dd, ner_dd, nfr_dd, nenn_dd, nfnn_dd, nemm_dd, nfmm_dd]; done)
  have z_nn_1_U4 : World.frozen? U4 ⟨Nnn, 1, none⟩ = false := by rw [← hW_U4]; first | (simp [go_sem, z_nn_1_Vdd]; done) | (simp [go_sem, z_nn_1_Vdd, nep_nn, nfp_nn, ner_nn, nfr_nn, nep_mm, nfp_mm, ner_mm, nfr_mm, nenn_mm, nfnn_mm, nep_dd, nfp_dd, ner_dd, nfr_dd, nenn_dd, nfnn_dd, nemm_dd, nfmm_dd]; done)
  have c_nn_2_U4 : World.cell? U4 ⟨Nnn, 2, none⟩ = some (Value.float .f32 cn) := by rw [← hW_U4]; first | (simp [go_sem, c_nn_2_Vdd]; done) | (simp [go_sem, c_nn_2_Vdd, nep_nn, nfp_nn, ner_nn, nfr_nn, nep_mm, nfp_mm, ner_mm, nfr_mm, nenn_mm, nfnn_mm, nep_dd, nfp_dd, ner_dd, nfr_dd, nenn_dd, nfnn_dd, nemm_dd, nfmm_dd]; done) | exact (World.cell?_alloc_lt _ _ _ (by omega)).trans c_nn_2_Vdd | (simp [go_sem, World.cell?_alloc_lt, c_nn_2_Vdd, nep_nn, nfp_nn, ner_nn, nfr_nn, nep_mm, nfp_mm, ner_mm, nfr_mm, nenn_mm, nfnn_mm, nep_dd, nfp_dd, ner_dd, nfr_dd, nenn_dd, nfnn_dd, nemm_dd, nfmm_dd]; done)
  have z_nn_2_U4 : World.frozen? U4 ⟨Nnn, 2, none⟩ = false := by rw [← hW_U4]; first | (simp [go_sem, z_nn_2_Vdd]; done) | (simp [go_sem, z_nn_2_Vdd, nep_nn, nfp_nn, ner_nn, nfr_nn, nep_mm, nfp_mm, ner_mm, nfr_mm, nenn_mm, nfnn_mm, nep_dd, nfp_dd, ner_dd, nfr_dd, nenn_dd, nfnn_dd, nemm_dd, nfmm_dd]; done)
  have l_nn_U4 : Nnn < U4.heap.size := block_lt_of_cell c_nn_0_U4
  have c_mm_0_U4 : World.cell? U4 ⟨Nmm, 0, none⟩ = some (Value.float .f32 (Op.negFloat .f32 se)) := by rw [← hW_U4]; first | (simp [go_sem, c_mm_0_Vdd]; done) | (simp [go_sem, c_mm_0_Vdd, nep_nn, nfp_nn, ner_nn, nfr_nn, nep_mm, nfp_mm, ner_mm, nfr_mm, nenn_mm, nfnn_mm, nep_dd, nfp_dd, ner_dd, nfr_dd, nenn_dd, nfnn_dd, nemm_dd, nfmm_dd]; done) | exact (World.cell?_alloc_lt _ _ _ (by omega)).trans c_mm_0_Vdd | (simp [go_sem, World.cell?_alloc_lt, c_mm_0_Vdd, nep_nn, nfp_nn, ner_nn, nfr_nn, nep_mm, nfp_mm, ner_mm, nfr_mm, nenn_mm, nfnn_mm, nep_dd, nfp_dd, ner_dd, nfr_dd, nenn_dd, nfnn_dd, nemm_dd, nfmm_dd]; done)
  have z_mm_0_U4 : World.frozen? U4 ⟨Nmm, 0, none⟩ = false := by rw [← hW_U4]; first | (simp [go_sem, z_mm_0_Vdd]; done) | (simp [go_sem, z_mm_0_Vdd, nep_nn, nfp_nn, ner_nn, nfr_nn, nep_mm, nfp_mm, ner_mm, nfr_mm, nenn_mm, nfnn_mm, nep_dd, nfp_dd, ner_dd, nfr_dd, nenn_dd, nfnn_dd, nemm_dd, nfmm_dd]; done)
  have c_mm_1_U4 : World.cell? U4 ⟨Nmm, 1, none⟩ = some (Value.float .f32 ce) := by rw [← hW_U4]; first | (simp [go_sem, c_mm_1_Vdd]; done) | (simp [go_sem, c_mm_1_Vdd, nep_nn, nfp_nn, ner_nn, nfr_nn, nep_mm, nfp_mm, ner_mm, nfr_mm, nenn_mm, nfnn_mm, nep_dd, nfp_dd, ner_dd, nfr_dd, nenn_dd, nfnn_dd, nemm_dd, nfmm_dd]; done) | exact (World.cell?_alloc_lt _ _ _ (by omega)).trans c_mm_1_Vdd | (simp [go_sem, World.cell?_alloc_lt, c_mm_1_Vdd, nep_nn, nfp_nn, ner_nn, nfr_nn, nep_mm, nfp_mm, ner_mm, nfr_mm, nenn_mm, nfnn_mm, nep_dd, nfp_dd, ner_dd, nfr_dd, nenn_dd, nfnn_dd, nemm_dd, nfmm_dd]; done)
  have z_mm_1_U4 : World.frozen? U4 ⟨Nmm, 1, none⟩ = false := by rw [← hW_U4]; first | (simp [go_sem, z_mm_1_Vdd]; done) | (simp [go_sem, z_mm_1_Vdd, nep_nn, nfp_nn, ner_nn, nfr_nn, nep_mm, nfp_mm, ner_mm, nfr_mm, nenn_mm, nfnn_mm, nep_dd, nfp_dd, ner_dd, nfr_dd, nenn_dd, nfnn_dd, nemm_dd, nfmm_dd]; done)
  have c_mm_2_U4 : World.cell? U4 ⟨Nmm, 2, none⟩ = some (Value.float .f32 0) := by rw [← hW_U4]; first | (simp [go_sem, c_mm_2_Vdd]; done) | (simp [go_sem, c_mm_2_Vdd, nep_nn, nfp_nn, ner_nn, nfr_nn, nep_mm, nfp_mm, ner_mm, nfr_mm, nenn_mm, nfnn_mm, nep_dd, nfp_dd, ner_dd, nfr_dd, nenn_dd, nfnn_dd, nemm_dd, nfmm_dd]; done) | exact (World.cell?_alloc_lt _ _ _ (by omega)).trans c_mm_2_Vdd | (simp [go_sem, World.cell?_alloc_lt, c_mm_2_Vdd, nep_nn, nfp_nn, ner_nn, nfr_nn, nep_mm, nfp_mm, ner_mm, nfr_mm, nenn_mm, nfnn_mm, nep_dd, nfp_dd, ner_dd, nfr_dd, nenn_dd, nfnn_dd, nemm_dd, nfmm_dd]; done)
  have z_mm_2_U4 : World.frozen? U4 ⟨Nmm, 2, none⟩ = false := by rw [← hW_U4]; first | (simp [go_sem, z_mm_2_Vdd]; done) | (simp [go_sem, z_mm_2_Vdd, nep_nn, nfp_nn, ner_nn, nfr_nn, nep_mm, nfp_mm, ner_mm, nfr_mm, nenn_mm, nfnn_mm, nep_dd, nfp_dd, ner_dd, nfr_dd, nenn_dd, nfnn_dd, nemm_dd, nfmm_dd]; done)
  have l_mm_U4 : Nmm < U4.heap.size := block_lt_of_cell c_mm_0_U4
  have c_dd_0_U4 : World.cell? U4 ⟨Ndd, 0, none⟩ = some (Value.float .f32 D1) := by rw [← hW_U4]; first | (simp [go_sem, c_dd_0_Vdd]; done) | (simp [go_sem, c_dd_0_Vdd, nep_nn, nfp_nn, ner_nn, nfr_nn, nep_mm, nfp_mm, ner_mm, nfr_mm, nenn_mm, nfnn_mm, nep_dd, nfp_dd, ner_dd, nfr_dd, nenn_dd, nfnn_dd, nemm_dd, nfmm_dd]; done) | exact (World.cell?_alloc_lt _ _ _ (by omega)).trans c_dd_0_Vdd | (simp [go_sem, World.cell?_alloc_lt, c_dd_0_Vdd, nep_nn, nfp_nn, ner_nn, nfr_nn, nep_mm, nfp_mm, ner_mm, nfr_mm, nenn_mm, nfnn_mm, nep_dd, nfp_dd, ner_dd, nfr_dd, nenn_dd, nfnn_dd, nemm_dd, nfmm_dd]; done)
  have z_dd_0_U4 : World.frozen? U4 ⟨Ndd, 0, none⟩ = false := by rw [← hW_U4]; first | (simp [go_sem, z_dd_0_Vdd]; done) | (simp [go_sem, z_dd_0_Vdd, nep_nn, nfp_nn, ner_nn, nfr_nn, nep_mm, nfp_mm, ner_mm, nfr_mm, nenn_mm, nfnn_mm, nep_dd, nfp_dd, ner_dd, nfr_dd, nenn_dd, nfnn_dd, nemm_dd, nfmm_dd]; done)
  have c_dd_1_U4 : World.cell? U4 ⟨Ndd, 1, none⟩ = some (Value.float .f32 D2) := by rw [← hW_U4]; first | (simp [go_sem, c_dd_1_Vdd]; done) | (simp [go_sem, c_dd_1_Vdd, nep_nn, nfp_nn, ner_nn, nfr_nn, nep_mm, nfp_mm, ner_mm, nfr_mm, nenn_mm, nfnn_mm, nep_dd, nfp_dd, ner_dd, nfr_dd, nenn_dd, nfnn_dd, nemm_dd, nfmm_dd]; done) | exact (World.cell?_alloc_lt _ _ _ (by omega)).trans c_dd_1_Vdd | (simp [go_sem, World.cell?_alloc_lt, c_dd_1_Vdd, nep_nn, nfp_nn, ner_nn, nfr_nn, nep_mm, nfp_mm, ner_mm, nfr_mm, nenn_mm, nfnn_mm, nep_dd, nfp_dd, ner_dd, nfr_dd, nenn_dd, nfnn_dd, nemm_dd, nfmm_dd]; done)
  have z_dd_1_U4 : World.frozen? U4 ⟨Ndd, 1, none⟩ = false := by rw [← hW_U4]; first | (simp [go_sem, z_dd_1_Vdd]; done) | (simp [go_sem, z_dd_1_Vdd, nep_nn, nfp_nn, ner_nn, nfr_nn, nep_mm, nfp_mm, ner_mm, nfr_mm, nenn_mm, nfnn_mm, nep_dd, nfp_dd, ner_dd, nfr_dd, nenn_dd, nfnn_dd, nemm_dd, nfmm_dd]; done)
  have c_dd_2_U4 : World.cell? U4 ⟨Ndd, 2, none⟩ = some (Value.float .f32 D3) := by rw [← hW_U4]; first | (simp [go_sem, c_dd_2_Vdd]; done) | (simp [go_sem, c_dd_2_Vdd, nep_nn, nfp_nn, ner_nn, nfr_nn, nep_mm, nfp_mm, ner_mm, nfr_mm, nenn_mm, nfnn_mm, nep_dd, nfp_dd, ner_dd, nfr_dd, nenn_dd, nfnn_dd, nemm_dd, nfmm_dd]; done) | exact (World.cell?_alloc_lt _ _ _ (by omega)).trans c_dd_2_Vdd | (simp [go_sem, World.cell?_alloc_lt, c_dd_2_Vdd, nep_nn, nfp_nn, ner_nn, nfr_nn, nep_mm, nfp_mm, ner_mm, nfr_mm, nenn_mm, nfnn_mm, nep_dd, nfp_dd, ner_dd, nfr_dd, nenn_dd, nfnn_dd, nemm_dd, nfmm_dd]; done)
  have z_dd_2_U4 : World.frozen? U4 ⟨Ndd, 2, none⟩ = false := by rw [← hW_U4]; first | (simp [go_sem, z_dd_2_Vdd]; done) | (simp [go_sem, z_dd_2_Vdd, nep_nn, nfp_nn, ner_nn, nfr_nn, nep_mm, nfp_mm, ner_mm, nfr_mm, nenn_mm, nfnn_mm, nep_dd, nfp_dd, ner_dd, nfr_dd, nenn_dd, nfnn_dd, nemm_dd, nfmm_dd]; done)
  have l_dd_U4 : Ndd < U4.heap.size := block_lt_of_cell c_dd_0_U4
  have B_U4 := Hb.mk (show Below w.heap.size w U4 by rw [← hW_U4]; exact (by repeat (first | with_reducible refine Below.setCell ?_ (by first | omega | (simp <;> omega)) _ | with_reducible refine Below.drews ?_ | with_reducible refine Below.drew ?_ | with_reducible refine Below.alloc ?_ (by first | omega | (simp <;> omega)) _ | with_reducible exact B_Vdd.out | with_reducible exact Below.refl _ _)))
  clear hW_U4 c_p_0_Vdd c_p_1_Vdd l_p_Vdd c_r_0_Vdd c_r_1_Vdd z_r_0_Vdd z_r_1_Vdd l_r_Vdd c_nn_0_Vdd c_nn_1_Vdd c_nn_2_Vdd z_nn_0_Vdd z_nn_1_Vdd z_nn_2_Vdd l_nn_Vdd c_mm_0_Vdd c_mm_1_Vdd c_mm_2_Vdd z_mm_0_Vdd z_mm_1_Vdd z_mm_2_Vdd l_mm_Vdd c_dd_0_Vdd c_dd_1_Vdd c_dd_2_Vdd z_dd_0_Vdd z_dd_1_Vdd z_dd_2_Vdd l_dd_Vdd
  refine region_late0 13 12 (by kernel_rfl) (by kernel_rfl) rfl (extract_pure rfl) (fun d v c a w h => by cases d <;> exact h) (fun Ix Fx hnex HBx => ?_)
  have kc_p_0_U4 := keepF HBx (p := ⟨w.heap.size, 0, none⟩) (v := .float .f32 n) c_p_0_U4
  have kc_p_1_U4 := keepF HBx (p := ⟨w.heap.size, 1, none⟩) (v := .float .f32 e) c_p_1_U4
  have kc_r_0_U4 := keepF HBx (p := ⟨w.heap.size + 1, 0, none⟩) (v := .float .f32 0) c_r_0_U4
  have kz_r_0_U4 := keepZ HBx (p := ⟨w.heap.size + 1, 0, none⟩) l_r_U4 z_r_0_U4
  have kc_r_1_U4 := keepF HBx (p := ⟨w.heap.size + 1, 1, none⟩) (v := .float .f32 0) c_r_1_U4
  have kz_r_1_U4 := keepZ HBx (p := ⟨w.heap.size + 1, 1, none⟩) l_r_U4 z_r_1_U4
  have kc_nn_0_U4 := keepF HBx (p := ⟨Nnn, 0, none⟩) (v := Value.float .f32 (Op.negFloat .f32 X)) c_nn_0_U4
  have kz_nn_0_U4 := keepZ HBx (p := ⟨Nnn, 0, none⟩) l_nn_U4 z_nn_0_U4
  have kc_nn_1_U4 := keepF HBx (p := ⟨Nnn, 1, none⟩) (v := Value.float .f32 (Op.negFloat .f32 Y)) c_nn_1_U4
  have kz_nn_1_U4 := keepZ HBx (p := ⟨Nnn, 1, none⟩) l_nn_U4 z_nn_1_U4
  have kc_nn_2_U4 := keepF HBx (p := ⟨Nnn, 2, none⟩) (v := Value.float .f32 cn) c_nn_2_U4
  have kz_nn_2_U4 := keepZ HBx (p := ⟨Nnn, 2, none⟩) l_nn_U4 z_nn_2_U4
  have kc_mm_0_U4 := keepF HBx (p := ⟨Nmm, 0, none⟩) (v := Value.float .f32 (Op.negFloat .f32 se)) c_mm_0_U4
  have kz_mm_0_U4 := keepZ HBx (p := ⟨Nmm, 0, none⟩) l_mm_U4 z_mm_0_U4
  have kc_mm_1_U4 := keepF HBx (p := ⟨Nmm, 1, none⟩) (v := Value.float .f32 ce) c_mm_1_U4
  have kz_mm_1_U4 := keepZ HBx (p := ⟨Nmm, 1, none⟩) l_mm_U4 z_mm_1_U4
  have kc_mm_2_U4 := keepF HBx (p := ⟨Nmm, 2, none⟩) (v := Value.float .f32 0) c_mm_2_U4
  have kz_mm_2_U4 := keepZ HBx (p := ⟨Nmm, 2, none⟩) l_mm_U4 z_mm_2_U4
  have kc_dd_0_U4 := keepF HBx (p := ⟨Ndd, 0, none⟩) (v := Value.float .f32 D1) c_dd_0_U4
  have kz_dd_0_U4 := keepZ HBx (p := ⟨Ndd, 0, none⟩) l_dd_U4 z_dd_0_U4
  have kc_dd_1_U4 := keepF HBx (p := ⟨Ndd, 1, none⟩) (v := Value.float .f32 D2) c_dd_1_U4
  have kz_dd_1_U4 := keepZ HBx (p := ⟨Ndd, 1, none⟩) l_dd_U4 z_dd_1_U4
  have kc_dd_2_U4 := keepF HBx (p := ⟨Ndd, 2, none⟩) (v := Value.float .f32 D3) c_dd_2_U4
  have kz_dd_2_U4 := keepZ HBx (p := ⟨Ndd, 2, none⟩) l_dd_U4 z_dd_2_U4
  simp only [List.take_succ_cons, List.take_zero, List.drop_succ_cons, List.drop_zero]
  repeat (refine lex_step (fun K hK => ?_); go_simp; first | (refine hK _ ?_; clear hK K) | (apply Exists.intro; refine ⟨fun _ => ?_, hK _ ?_⟩; (first | (go_at_call 40; exact callR (KW.out _)) | (go_at_call_of 63 (Value.float .f32 f); exact callRT (KCf.out _)) | (go_at_call_of 54 (Value.float .f32 f); exact callRT (KSf.out _)) | (go_at_call_of 65 (Value.float .f32 cf); exact callR (KWC.out _)) | (go_at_call_of 65 (Value.float .f32 sf); exact callR (KDS.out _)) | (go_at_call 64; exact callR (KPa.out _)) | (go_at_call 66; exact callR (KP.out _))); clear hK K))
  refine lex_nil ?_
  intro iqx
  have hbx := HBx.out iqx
  have bsx := B_U4.out.size
  have B_U5 := Hb.mk (Below.on B_U4.out hbx bsx)
  have c_p_0_U5 := kc_p_0_U4 iqx
  have c_p_1_U5 := kc_p_1_U4 iqx
  have l_p_U5 : w.heap.size < (Fx iqx).heap.size := block_lt_of_cell c_p_0_U5
  have c_r_0_U5 := kc_r_0_U4 iqx
  have z_r_0_U5 := kz_r_0_U4 iqx
  have c_r_1_U5 := kc_r_1_U4 iqx
  have z_r_1_U5 := kz_r_1_U4 iqx
  have l_r_U5 : w.heap.size + 1 < (Fx iqx).heap.size := block_lt_of_cell c_r_0_U5
  have c_nn_0_U5 := kc_nn_0_U4 iqx
  have z_nn_0_U5 := kz_nn_0_U4 iqx
  have c_nn_1_U5 := kc_nn_1_U4 iqx
  have z_nn_1_U5 := kz_nn_1_U4 iqx
  have c_nn_2_U5 := kc_nn_2_U4 iqx
  have z_nn_2_U5 := kz_nn_2_U4 iqx
  have l_nn_U5 : Nnn < (Fx iqx).heap.size := block_lt_of_cell c_nn_0_U5
  have c_mm_0_U5 := kc_mm_0_U4 iqx
  have z_mm_0_U5 := kz_mm_0_U4 iqx
  have c_mm_1_U5 := kc_mm_1_U4 iqx
  have z_mm_1_U5 := kz_mm_1_U4 iqx
  have c_mm_2_U5 := kc_mm_2_U4 iqx
  have z_mm_2_U5 := kz_mm_2_U4 iqx
  have l_mm_U5 : Nmm < (Fx iqx).heap.size := block_lt_of_cell c_mm_0_U5
  have c_dd_0_U5 := kc_dd_0_U4 iqx
  have z_dd_0_U5 := kz_dd_0_U4 iqx
  have c_dd_1_U5 := kc_dd_1_U4 iqx
  have z_dd_1_U5 := kz_dd_1_U4 iqx
  have c_dd_2_U5 := kc_dd_2_U4 iqx
  have z_dd_2_U5 := kz_dd_2_U4 iqx
  have l_dd_U5 : Ndd < (Fx iqx).heap.size := block_lt_of_cell c_dd_0_U5
  clear HBx hbx bsx c_p_0_U4 c_p_1_U4 kc_p_0_U4 kc_p_1_U4 l_p_U4 c_r_0_U4 c_r_1_U4 kc_r_0_U4 kc_r_1_U4 z_r_0_U4 z_r_1_U4 kz_r_0_U4 kz_r_1_U4 l_r_U4 c_nn_0_U4 c_nn_1_U4 c_nn_2_U4 kc_nn_0_U4 kc_nn_1_U4 kc_nn_2_U4 z_nn_0_U4 z_nn_1_U4 z_nn_2_U4 kz_nn_0_U4 kz_nn_1_U4 kz_nn_2_U4 l_nn_U4 c_mm_0_U4 c_mm_1_U4 c_mm_2_U4 kc_mm_0_U4 kc_mm_1_U4 kc_mm_2_U4 z_mm_0_U4 z_mm_1_U4 z_mm_2_U4 kz_mm_0_U4 kz_mm_1_U4 kz_mm_2_U4 l_mm_U4 c_dd_0_U4 c_dd_1_U4 c_dd_2_U4 kc_dd_0_U4 kc_dd_1_U4 kc_dd_2_U4 z_dd_0_U4 z_dd_1_U4 z_dd_2_U4 kz_dd_0_U4 kz_dd_1_U4 kz_dd_2_U4 l_dd_U4
  generalize Fx iqx = U5 at *
  go_wp2
  exact bodyPost_ret (v := plT A B ok) (by simp [results, Try.results29, go_sem, c_r_0_U5, c_r_1_U5]) rfl ⟨rfl, (by repeat (first | with_reducible refine Below.setCell ?_ (by first | omega | (simp <;> omega)) _ | with_reducible refine Below.drews ?_ | with_reducible refine Below.drew ?_ | with_reducible refine Below.alloc ?_ (by first | omega | (simp <;> omega)) _ | with_reducible exact B_U5.out | with_reducible exact Below.refl _ _))⟩
end Go.Proofs.Ytfmhbmehidlhiaa
