/-
  Where two lines meet, of the program and of its model; the exact law MeetOfWays. No condition.
-/
import Derived.Test.YtfmhbmehidlhiaaMid
namespace Go.Proofs.Ytfmhbmehidlhiaa
open Go Go.RowKit
set_option maxRecDepth 100000
def ngf (x : Nat) : Nat := Op.negFloat .f32 x
theorem ngf_fl {x : Nat} (h : Fl .f32 x x) (hf : fin .f32 x = true) : Fl .f32 (ngf x) (ngf x) := by
  refine Fl.not ?_ (wf_neg h.wf)
  unfold ngf
  rw [isN_neg]
  exact fin_notN hf
structure Meet (a b c x y z p q r s t u : Nat) : Prop where
  ab : Wb (crX a b c x y z) (crY a b c x y z) (crZ a b c x y z) 1107296256
  cd : Wb (crX p q r s t u) (crY p q r s t u) (crZ p q r s t u) 1107296256
  m : Wb (crX (crX a b c x y z) (crY a b c x y z) (crZ a b c x y z) (crX p q r s t u) (crY p q r s t u) (crZ p q r s t u)) (crY (crX a b c x y z) (crY a b c x y z) (crZ a b c x y z) (crX p q r s t u) (crY p q r s t u) (crZ p q r s t u)) (crZ (crX a b c x y z) (crY a b c x y z) (crZ a b c x y z) (crX p q r s t u) (crY p q r s t u) (crZ p q r s t u)) 1157627904
  s : Wb (fop .add .f32 a x) (fop .add .f32 b y) (fop .add .f32 c z) 1090519040
theorem Meet.of {a b c x y z p q r s t u : Nat} (h : Wb a b c 1082130432) (g : Wb x y z 1082130432) (k : Wb p q r 1082130432) (l : Wb s t u 1082130432) : Meet a b c x y z p q r s t u := by
  have h1 := h.cross (m := 1098907648) (s := 1107296256) g (by decide +kernel) (by decide +kernel) (by decide +kernel) (by decide +kernel)
  have h2 := k.cross (m := 1098907648) (s := 1107296256) l (by decide +kernel) (by decide +kernel) (by decide +kernel) (by decide +kernel)
  exact ⟨h1, h2, h1.cross (m := 1149239296) (s := 1157627904) h2 (by decide +kernel) (by decide +kernel) (by decide +kernel) (by decide +kernel), h.plus g⟩
theorem meet_dot {x y z a b c : Nat} (h : Wb x y z 1157627904) (g : Wb a b c 1090519040) : Ab .f32 (dotC x y z a b c) 1199570944 :=
  h.dot (m := 1182793728) (s := 1191182336) (t := 1199570944) g (by decide +kernel) (by decide +kernel) (by decide +kernel) (by decide +kernel) (by decide +kernel) (by decide +kernel)
end Go.Proofs.Ytfmhbmehidlhiaa
