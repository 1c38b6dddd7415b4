/-
A range over a function whose iterator keeps a variable of its own in a block that was laid ahead of the statement (strings.Lines): the law, at whatever the body keeps in blocks of its own.
-/
import Derived.RangeFuncNested
import Derived.RangeFuncBound
import Derived.RangeFuncBox
import Derived.RangeFuncCalls
import Derived.RangeFuncLeaves
import Derived.Shelf.Abstract
import Derived.Shelf.RegionOpen
import Derived.WalkKit
import Derived.OwnWalkIn
import Derived.TacticsInMore
import Derived.LoopNIn
import Derived.LoopIn
import Derived.Maps.AppendAt
import Derived.Test.YtcgakdgfmhkpjaaDoorCn
namespace Go.Proofs.YtcgakdgfmhkpjaaDoor
open Go Go.RowKit
set_option maxRecDepth 100000

/-- What is said stays said where one block, B, is written, and where blocks are added. -/
def Bides {β : Type} (B : Nat) (J : β → World → Prop) : Prop := ∀ s W W' row, J s W → W.grownBy W' row → (∀ r, row = some r → r = B) → J s W'
/-- Stays said where the statement's own book-keeping is written. -/
def Bookly {β : Type} (w : World) (J : β → World → Prop) : Prop := OwnFrom w.heap.size J
/-- What an iterator of its own variable (block B) does with rounds that leave that block alone. -/
def SeqVar {α : Type} (F : Fence) (n : Nat) (P : Program) (g : Nat) (lb : Array Value) (encs : α → Array Value) (B : Nat) (S Sp : List α → Prop) (N : Nat) (w : World) : Prop :=
  ∀ (l : Nat) (J Jx : List α → World → Prop) (W : World), W.heap[B]? = w.heap[B]? → Bides B J →
    (∀ pre x V, J pre V → pre.length < N → YieldAt F (n - 1) P l (encs x) V fun e V' =>
      (e = .returned (.bool true) ∧ J (pre ++ [x]) V' ∧ V'.heap[B]? = V.heap[B]?) ∨ (e = .returned (.bool false) ∧ Jx (pre ++ [x]) V')) →
    J [] W → CallsIn F n P g (#[.func (.yield l) #[] #[]] ++ lb) W fun e V => (∃ v, e = .returned v) ∧ ((∃ xs, S xs ∧ J xs V) ∨ (∃ pre, Sp pre ∧ Jx pre V))
/-- How a round's body ends. -/
def rndEnd {α : Type} (B D : Nat) (I : List α → World → Prop) (Ix : Code → List α → World → Prop) (xs : List α) (W : World) : Exit → Act → World → Prop
  | .normal, _, V => KeepsFrom D W V ∧ V.heap[B]? = W.heap[B]? ∧ I xs V
  | .exit id, _, V => KeepsFrom D W V ∧ Ix (.exit id) xs V
  | .ret, _, V => KeepsFrom D W V ∧ Ix .ret xs V
  | _, _, _ => False
/-- The two blocks of the statement's book-keeping. -/
structure Book (D : Nat) (o : Obj) (W : World) : Prop where
  rcd : W.heap[D + 1]? = some o
  dfr : W.heap[D]? = some (.deferred (some []))
theorem Book.lt {D : Nat} {o : Obj} {W : World} (h : Book D o W) : D + 1 < W.heap.size := (Array.getElem?_eq_some_iff.1 h.rcd).1
theorem Book.row {D B : Nat} {o : Obj} {W V : World} {row : Option Nat} (h : Book D o W) (hB : B < D) (hg : W.grownBy V row) (hr : ∀ r, row = some r → r = B) : Book D o V := by
  have hl := h.lt
  exact ⟨(hg.block _ hl (fun e => by have := hr _ e.symm; omega)).trans h.rcd, (hg.block _ (by omega) (fun e => by have := hr _ e.symm; omega)).trans h.dfr⟩
theorem Book.put {D : Nat} {o : Obj} {W : World} (h : Book D o W) (o' : Obj) : Book D o' (W.putObj (D + 1) o') := ⟨World.putObj_heap_same h.lt, (World.putObj_heap_other (by omega)).trans h.dfr⟩
theorem Book.kept {D : Nat} {o : Obj} {W V : World} (h : Book D o W) (ho : o.isCells = false) (hk : KeepsFrom D W V) : Book D o V := ⟨hk.same _ _ (by omega) h.rcd ho, hk.same _ _ (Nat.le_refl _) h.dfr rfl⟩
theorem Book.end_ {P : Program} {D : Nat} {r : Loop} {W : World} (h : Book D (.loop r) W) (jump : Option Code) : (Instr.endRound (D + 1) jump).run P W = .ok (.bool jump.isNone) (W.putObj (D + 1) (.loop { r with state := if jump.isNone then .ready else .done, pending := jump })) := run_endRound (P := P) jump h.rcd

theorem range_var {F : Fence} {n : Nat} {P : Program} {α : Type} {g : Operand} {ps : Array Tmp} {assign body : Code} {Q : Exit → Act → World → Prop} {a : Act} {w : World}
    (hro : F.round = none) (h1 : 1 ≤ n) {gf : Nat} {lb : Array Value} (hg : a.eval g = .func (.func gf) #[] lb) (hF : F.fn gf) (eg : ∀ args w, (callFunc gf args).run P w = .ok (.enter gf args) w)
    {encs : α → Array Value} {B : Nat} {S Sp : List α → Prop} {N : Nat} (hB : B < w.heap.size) (hseq : SeqVar F (n - 1) P gf lb encs B S Sp N w) (hps : ∀ x, (encs x).size = ps.size)
    (I : List α → World → Prop) (Ix : Code → List α → World → Prop) (hI : Bookly w I) (hIx : ∀ c, Bookly w (Ix c)) (hIB : Bides B I) (h0 : I [] w) (a₁ : α → Act)
    (hassign : ∀ (l : Nat) (x : α) (W : World) (K : Act → World → Prop), K (a₁ x) W →
      assign.wpIn (F.inRound l) (n - 1 - 1) P (Exit.then K (fun _ _ _ => False)) { tmps := (ps.zip (encs x)).foldl (fun t (p, v) => t.setIfInBounds p v) a.tmps, defers := [] } W)
    (hbody : ∀ (l : Nat) (pre : List α) (x : α) (W : World), I pre W → pre.length < N → body.wpIn (F.inRound l) (n - 1 - 1) P (rndEnd B w.heap.size I Ix (pre ++ [x]) W) (a₁ x) W)
    (hdone : ∀ (xs : List α) (W : World), S xs → I xs W → W.heap[w.heap.size]? = some (.deferred (some [])) → Q .normal { a with defers := { target := .collected w.heap.size, args := #[] } :: a.defers } W)
    (hstop : ∀ (c : Code) (pre : List α) (W : World), Sp pre → Ix c pre W → W.heap[w.heap.size]? = some (.deferred (some [])) → c.wpIn F n P Q { a with defers := { target := .collected w.heap.size, args := #[] } :: a.defers } W) :
    (Code.rangeFunc g ps assign body).wpIn F n P Q a w := by
  refine wpIn_rangeFunc fun fn hfn => ?_
  rw [hro]
  generalize hR : (fun st pe => ({ state := st, pending := pe, fn, tmps := a.tmps, params := ps, assign, body, defers := w.heap.size } : Loop)) = R
  have hRr : R .ready none = { state := .ready, pending := none, fn, tmps := a.tmps, params := ps, assign, body, defers := w.heap.size } := by rw [← hR]
  have hnc : ∀ st pe, (Obj.loop (R st pe)).isCells = false := fun _ _ => rfl
  -- what is told of a world between two rounds
  let T : LoopState → Option Code → World → Prop := fun st pe W => Book w.heap.size (.loop (R st pe)) W
  have hIp : ∀ {c : List α → World → Prop} {s : List α} {W : World} {o : Obj} (o' : Obj), Bookly w c → c s W → Book w.heap.size o W → o.isCells = false → c s (W.putObj (w.heap.size + 1) o') := fun o' hc hs hb ho => OwnFrom.putObj hc o' hs (by omega) hb.rcd ho
  have hstart : Book w.heap.size (.loop (R .ready none)) ((w.alloc (.deferred (some []))).alloc (.loop (R .ready none))) := by
    have e := World.alloc_heap_new (w.alloc (.deferred (some []))) (.loop (R .ready none))
    rw [World.size_alloc] at e
    exact ⟨e, (Below.heap_alloc _ _ _ (by simp)).trans (World.alloc_heap_new w _)⟩
  have hI1 : I [] ((w.alloc (.deferred (some []))).alloc (.loop (R .ready none))) := OwnFrom.alloc hI _ (OwnFrom.alloc hI _ h0)
  have hB1 : ((w.alloc (.deferred (some []))).alloc (.loop (R .ready none))).heap[B]? = w.heap[B]? := (Below.heap_alloc _ _ _ (by simp; omega)).trans (Below.heap_alloc _ _ _ hB)
  generalize hW1 : (w.alloc (.deferred (some []))).alloc (.loop (R .ready none)) = W1 at hstart hI1 hB1
  refine ⟨w.heap.size + 1, [{ target := .collected w.heap.size, args := #[] }], W1, { target := .fn (.func gf) lb, args := #[.func (.yield (w.heap.size + 1)) #[] #[]] }, W1, gf, #[.func (.yield (w.heap.size + 1)) #[] #[]] ++ lb, W1, ?_, ?_, ?_, ?_, fun _ => h1, ?_⟩
  · rw [← hW1, hRr]; exact run_enterLoop_outer _ _ _ _ _
  · simp only [resolve, hg]; simp [go_sem]
  · intro f hf; simp [Target.leads] at hf; subst hf; exact hF
  · simp [invoke, go_sem, eg]
  refine (hseq (w.heap.size + 1) (fun pre W => I pre W ∧ T .ready none W) (fun pre W => ∃ c, Ix c pre W ∧ T .done (some c) W) W1 hB1
    (fun s V V' row hs hv hr => ⟨hIB s V V' row hs.1 hv hr, hs.2.row hB hv hr⟩) (fun pre x V hs hlen => ?_) ⟨hI1, hstart⟩).mono ?_
  · obtain ⟨hi, hb⟩ := hs
    have hy := run_yield (P := P) (args := encs x) hb.rcd (by rw [hRr]; exact hps x)
    rw [hRr] at hy
    refine ⟨fn, _, assign, body, hy, roundIn_of_wpIn hfn (hassign _ x V _ ⟨_, run_beginRound hb.rcd (by rw [hRr]), ?_⟩)⟩
    have hb2 := hb.put (.loop { R .ready none with state := .busy })
    have hB2 : (V.putObj (w.heap.size + 1) (.loop { R .ready none with state := .busy })).heap[B]? = V.heap[B]? := World.putObj_heap_other (by omega)
    refine wpIn_mono (hbody _ pre x _ (hIp _ hI hi hb (hnc _ _)) hlen) fun e a3 V3 hp => ?_
    have close : ∀ (jump : Option Code), KeepsFrom w.heap.size (V.putObj (w.heap.size + 1) (.loop { R .ready none with state := .busy })) V3 →
        ∃ v V4, (Instr.endRound (w.heap.size + 1) jump).run P V3 = .ok v V4 ∧ v = .bool jump.isNone ∧ T (if jump.isNone then .ready else .done) jump V4 ∧ V4.heap[B]? = V3.heap[B]? ∧ (∀ (c : List α → World → Prop) (s : List α), Bookly w c → c s V3 → c s V4) := fun jump hk => by
      have hb3 := hb2.kept rfl hk
      refine ⟨_, _, hb3.end_ jump, rfl, ?_, World.putObj_heap_other (by omega), fun c s hc hs => hIp _ hc hs hb3 rfl⟩
      have := hb3.put (.loop { ({ R .ready none with state := .busy } : Loop) with state := if jump.isNone then .ready else .done, pending := jump })
      show Book _ _ _
      rw [show R (if jump.isNone then .ready else .done) jump = { ({ R .ready none with state := .busy } : Loop) with state := if jump.isNone then .ready else .done, pending := jump } by rw [← hR]]
      exact this
    cases e with
    | normal =>
      obtain ⟨hk, hkB, hi3⟩ := hp
      obtain ⟨v, V4, hr, rfl, ht, h4, hm⟩ := close none hk
      exact ⟨_, _, hr, .inl ⟨rfl, ⟨hm I _ hI hi3, ht⟩, h4.trans (hkB.trans hB2)⟩⟩
    | ret =>
      obtain ⟨hk, hi3⟩ := hp
      obtain ⟨v, V4, hr, rfl, ht, _, hm⟩ := close (some .ret) hk
      exact ⟨_, _, hr, .inr ⟨rfl, _, hm _ _ (hIx _) hi3, ht⟩⟩
    | exit id =>
      obtain ⟨hk, hi3⟩ := hp
      obtain ⟨v, V4, hr, rfl, ht, _, hm⟩ := close (some (.exit id)) hk
      exact ⟨_, _, hr, .inr ⟨rfl, _, hm _ _ (hIx _) hi3, ht⟩⟩
    | goto t => exact hp.elim
    | panic ch => exact hp.elim
    | outgrown => exact hp.elim
  · rintro e V ⟨⟨v, rfl⟩, (⟨xs, hS, hi, hb⟩ | ⟨pre, hS, c, hi, hb⟩)⟩
    · have he := run_endLoop (P := P) hb.rcd (by rw [← hR]; simp)
      exact ⟨_, _, he, by rw [← hR]; exact hdone xs _ hS (hIp _ hI hi hb (hnc _ _)) ((World.putObj_heap_other (by omega)).trans hb.dfr)⟩
    · have he := run_endLoop (P := P) hb.rcd (by rw [← hR]; simp)
      exact ⟨_, _, he, by rw [← hR]; exact hstop c pre _ hS (hIp _ (hIx c) hi hb (hnc _ _)) ((World.putObj_heap_other (by omega)).trans hb.dfr)⟩

/-! A region that draws its order, within a round, by the plain laws (as in XRpp: not to be imported together with it). -/
theorem oper_round {l n : Nat} {P : Program} {o : Oper} {a : Act} {w : World} {K : Act → World → Prop} {Q : Exit → Act → World → Prop} (hd : ∀ c, o.op ≠ .defer c) (h : Oper.wp P o a w K Q) : Oper.wpIn (Fence.wide.inRound l) n P o a w K Q := by
  refine ⟨fun _ _ => trivial, ?_⟩
  rw [Oper.semAt_plain _ _ _ hd]
  unfold Oper.wp at h
  generalize (execOp a.eval o).run P w = r at h ⊢
  match r, h with
  | .ok (.value v) w', h => exact h
  | .ok .skip w', h => exact h
  | .ok (.defer d) w', h => exact h
  | .ok (.enter f args) w', h => exact ⟨fun h => (by cases h), CallsIn.inRound l (callsIn_wide.2 (Calls.mono h fun e w' h => by cases e <;> exact h))⟩
  | .ok (.row row args) w', h => exact ⟨fun h => (by cases h), fun c cs _ => by obtain ⟨v, w', r, s⟩ := h c cs; exact ⟨v, w', r, stepsIn_wide.2 s⟩⟩
  | .halt (.panic v) w', h => exact h
def noDefer (ops : Array Oper) : Bool := ops.toList.all fun o => match o.op with
  | .defer _ => false
  | _ => true
theorem noDefer_at {ops : Array Oper} (h : noDefer ops = true) {i : Nat} {o : Oper} (ho : ops[i]? = some o) : ∀ c, o.op ≠ .defer c := by
  intro c e
  unfold noDefer at h
  rw [List.all_eq_true] at h
  have := h o (by have := Array.mem_of_getElem? ho; exact Array.mem_toList_iff.2 this)
  rw [e] at this
  cases this
theorem any_round {l n : Nat} {P : Program} {md : Region.Mode} {ops : Array Oper} {Q : Exit → Act → World → Prop} (hd : noDefer ops = true) (hL : ¬ LetsOut Q) : ∀ (fuel : Nat) (listed : Array Bool) (a : Act) (w : World), wpAny P md ops Q fuel listed a w → wpAnyIn (Fence.wide.inRound l) n P md ops Q fuel listed a w
  | 0, _, _, _, h => h
  | fuel + 1, listed, a, w, h => ⟨h.1, fun i hi => by
      have h2 := h.2 i hi
      unfold wpOp at h2
      unfold wpOpIn
      cases ho : ops[i]? with
      | none =>
        simp only [ho] at h2 ⊢
        exact any_round hd hL fuel _ _ _ h2
      | some o =>
        simp only [ho] at h2 ⊢
        split
        · rename_i hw
          rw [if_pos hw] at h2
          refine oper_round (noDefer_at hd ho) ?_
          exact Oper.wp_mono (fun a w h => any_round hd hL fuel _ a w h) (h2.resolve_right fun h => hL h.2)
        · rename_i hw
          rw [if_neg hw] at h2
          exact ⟨fun _ _ => trivial, any_round hd hL fuel _ _ _ h2⟩⟩
theorem region_round {l n id : Nat} {P : Program} {ops : Array Oper} {Q : Exit → Act → World → Prop} {a : Act} {w : World} (hm : P.follows .mixedOrders = true) (hd : noDefer ops = true) (hL : ¬ LetsOut Q) (h : wpAny P .any ops Q ops.size (Array.replicate ops.size false) a w.drew) : (Code.region id ops true).wpIn (Fence.wide.inRound l) n P Q a w :=
  wpIn_region_any hm (any_round hd hL _ _ _ _ h)
end Go.Proofs.YtcgakdgfmhkpjaaDoor
