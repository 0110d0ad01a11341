/- A range over an iterator, as in Rfl, with what the iterator's elements have in common. -/
import Derived.Test.YtpgnekejemockaaRfl
namespace Go.Proofs.Ytpgnekejemockaa
open Go.RowKit
set_option linter.unusedVariables false
set_option linter.unusedSimpArgs false
section
variable {F : Fence} {n : Nat} {P : Program}
/-- What an iterator does that was called where memory had come to H blocks, with the record at H - 1: it keeps to the blocks from H on and below hi. -/
def SeqP {α : Type} (F : Fence) (n : Nat) (P : Program) (gf : Nat) (lb : Array Value) (encs : α → Array Value) (Gx : Nat → Prop) (hi : Nat) (S Sp : List α → Prop) (N : Nat) (Px : α → Prop) (l : Nat) (W : World) : Prop :=
  ∀ J Jx : List α → World → Prop, (∀ s, Abd W.heap.size hi (J s)) → (∀ s, Abd W.heap.size hi (Jx s)) →
    (∀ pre x W1, Px x → J pre W1 → pre.length < N → hi ≤ W1.heap.size → YieldAt F (n - 1) P l (encs x) W1 fun e W' => (e = .returned (.bool true) ∧ J (pre ++ [x]) W' ∧ Kpt Gx W1 W') ∨ (e = .returned (.bool false) ∧ Jx (pre ++ [x]) W')) →
    J [] W →
    CallsIn F n P gf (#[.func (.yield l) #[] #[]] ++ lb) W fun e W' => (∃ v, e = .returned v) ∧ ((∃ xs, S xs ∧ J xs W') ∨ (∃ pre, Sp pre ∧ Jx pre W'))

theorem rfp_law {α : Type} {g : Operand} {ps : Array Tmp} {assign body : Code} {Q : Exit → Act → World → Prop} {a : Act} {w : World}
    (hro : F.round = none) (h1 : 1 ≤ n) {gf : Nat} {lb : Array Value} (hg : a.eval g = .func (.func gf) #[] lb) (hFg : F.fn gf) (eg : ∀ args w, (callFunc gf args).run P w = .ok (.enter gf args) w)
    {encs : α → Array Value} (Fx : Nat → Prop) (hi : Nat) (hhi : w.heap.size + 2 ≤ hi) (hFx : ∀ j, w.heap.size ≤ j → j < hi → Fx j) {S Sp : List α → Prop} {N : Nat} {Px : α → Prop}
    (hseq : ∀ W, W.heap.size = w.heap.size + 2 → Below w.heap.size w W → SeqP F (n - 1) P gf lb encs (fun j => Fx j ∧ j ≠ w.heap.size + 1) hi S Sp N Px (w.heap.size + 1) W)
    (hps : ∀ x, (encs x).size = ps.size)
    (I : List α → World → Prop) (Ix : Code → List α → World → Prop) (hI : ∀ s, Abd w.heap.size hi (I s)) (hIx : ∀ c s, Abd w.heap.size hi (Ix c s)) (h0 : I [] w) (a₁ : α → Act)
    (hassign : ∀ (l : Nat) (x : α) (W : World) (K : Act → World → Prop), K (a₁ x) W →
      assign.wpIn (F.inRound l) (n - 1 - 1) P (Exit.then K (fun _ _ _ => False)) { tmps := (ps.zip (encs x)).foldl (fun t (p, v) => t.setIfInBounds p v) a.tmps, defers := [] } W)
    (hbody : ∀ (l : Nat) (pre : List α) (x : α) (W : World), Px x → I pre W → pre.length < N → hi ≤ W.heap.size → body.wpIn (F.inRound l) (n - 1 - 1) P (rfPost Fx I Ix (pre ++ [x]) W) (a₁ x) W)
    (hdone : ∀ (xs : List α) (W : World), S xs → I xs W → W.heap[w.heap.size]? = some (.deferred (some [])) → Q .normal { a with defers := { target := .collected w.heap.size, args := #[] } :: a.defers } W)
    (hstop : ∀ (c : Code) (pre : List α) (W : World), Sp pre → Ix c pre W → W.heap[w.heap.size]? = some (.deferred (some [])) → c.wpIn F n P Q { a with defers := { target := .collected w.heap.size, args := #[] } :: a.defers } W) :
    (Code.rangeFunc g ps assign body).wpIn F n P Q a w := by
  refine wpIn_rangeFunc fun fn hfn => ?_
  rw [hro]
  let L : LoopState → Option Code → Obj := fun st pe => .loop { state := st, pending := pe, fn, tmps := a.tmps, params := ps, assign, body, defers := w.heap.size }
  obtain ⟨W1, hW1⟩ : ∃ W1, (w.alloc (.deferred (some []))).alloc (L .ready none) = W1 := ⟨_, rfl⟩
  have hs1 : W1.heap.size = w.heap.size + 2 := by rw [← hW1]; simp
  have hL1 : W1.heap[w.heap.size + 1]? = some (L .ready none) := by
    rw [← hW1]; have := World.alloc_heap_new (w.alloc (.deferred (some []))) (L .ready none); rwa [World.size_alloc] at this
  have hK1 : W1.heap[w.heap.size]? = some (.deferred (some [])) := by
    rw [← hW1]; exact blk_alloc (World.alloc_heap_new w _)
  have hI1 : I [] W1 := by rw [← hW1]; exact (hI _).new ((hI _).new h0 _) _
  have hb1 : Below w.heap.size w W1 := by rw [← hW1]; exact ((Below.refl _ w).alloc (Nat.le_refl _) _).alloc (by simp) _
  refine ⟨w.heap.size + 1, [{ target := .collected w.heap.size, args := #[] }], W1, { target := .fn (.func gf) lb, args := #[.func (.yield (w.heap.size + 1)) #[] #[]] }, W1, gf,
    #[.func (.yield (w.heap.size + 1)) #[] #[]] ++ lb, W1, ?_, ?_, ?_, ?_, fun _ => h1, ?_⟩
  · rw [← hW1]; exact run_enterLoop_outer _ _ _ _ _
  · simp only [resolve, hg]
    simp [go_sem]
  · intro f' hf'; simp [Target.leads] at hf'; subst hf'; exact hFg
  · simp [invoke, go_sem, eg]
  refine (hseq W1 hs1 hb1
    (fun pre W => I pre W ∧ W.heap[w.heap.size + 1]? = some (L .ready none) ∧ W.heap[w.heap.size]? = some (.deferred (some [])))
    (fun pre W => ∃ c, Ix c pre W ∧ W.heap[w.heap.size + 1]? = some (L .done (some c)) ∧ W.heap[w.heap.size]? = some (.deferred (some []))) ?_ ?_ ?_ ⟨hI1, hL1, hK1⟩).mono ?_
  · intro s A A' hs hg'
    rw [hs1] at hg'
    exact ⟨hI s A A' hs.1 (hg'.mono fun k hk => by omega), kpt_at hg' hs.2.1 (.inl (by omega)), kpt_at hg' hs.2.2 (.inl (by omega))⟩
  · intro s A A' hs hg'
    rw [hs1] at hg'
    obtain ⟨c, q1, q2, q3⟩ := hs
    exact ⟨c, hIx c s A A' q1 (hg'.mono fun k hk => by omega), kpt_at hg' q2 (.inl (by omega)), kpt_at hg' q3 (.inl (by omega))⟩
  · rintro pre x W hpx ⟨hiW, hl, hk⟩ hlen hsz
    have hy := run_yield (P := P) (args := encs x) hl (hps x)
    refine ⟨fn, _, assign, body, hy, roundIn_of_wpIn hfn (hassign _ x W _ ⟨_, run_beginRound hl rfl, ?_⟩)⟩
    have hlt := blk_lt hl
    have B0 : ∀ o, (W.putObj (w.heap.size + 1) o).heap.size = W.heap.size := fun o => World.putObj_size
    have B1 : ∀ o, (W.putObj (w.heap.size + 1) o).heap[w.heap.size + 1]? = some o := fun o => World.putObj_heap_same hlt
    have B2 : ∀ o, (W.putObj (w.heap.size + 1) o).heap[w.heap.size]? = some (.deferred (some [])) := fun o => (World.putObj_heap_other (by omega)).trans hk
    have B3 : ∀ o, Kpt (fun j => Fx j ∧ j ≠ w.heap.size + 1) W (W.putObj (w.heap.size + 1) o) := fun o => ⟨rfl, rfl, rfl, by simp, fun k _ hk => World.putObj_heap_other hk.2⟩
    refine wpIn_mono (hbody _ pre x _ hpx ((hI _).put hiW _ (by omega) (by omega)) hlen (by rw [B0]; exact hsz)) ?_
    have fin : ∀ (jump : Option Code) (W3 : World), Kpt Fx (W.putObj (w.heap.size + 1) (L .busy none)) W3 →
        (Instr.endRound (w.heap.size + 1) jump).run P W3 = .ok (.bool jump.isNone) (W3.putObj (w.heap.size + 1) (L (if jump.isNone then .ready else .done) jump)) ∧
        (W3.putObj (w.heap.size + 1) (L (if jump.isNone then .ready else .done) jump)).heap[w.heap.size + 1]? = some (L (if jump.isNone then .ready else .done) jump) ∧
        (W3.putObj (w.heap.size + 1) (L (if jump.isNone then .ready else .done) jump)).heap[w.heap.size]? = some (.deferred (some [])) ∧
        Kpt (fun j => Fx j ∧ j ≠ w.heap.size + 1) W (W3.putObj (w.heap.size + 1) (L (if jump.isNone then .ready else .done) jump)) := fun jump W3 hk3 => by
      have g1 : W3.heap[w.heap.size + 1]? = some (L .busy none) := (hk3.block _ (by rw [B0]; exact hlt) (hFx _ (by omega) (by omega))).trans (B1 _)
      have g2 : W3.heap[w.heap.size]? = some (.deferred (some [])) := (hk3.block _ (by rw [B0]; omega) (hFx _ (by omega) (by omega))).trans (B2 _)
      refine ⟨run_endRound (P := P) jump g1, World.putObj_heap_same (blk_lt g1), (World.putObj_heap_other (by omega)).trans g2, ?_⟩
      refine ((B3 _).trans (hk3.mono fun k hk => hk.1)).trans ⟨rfl, rfl, rfl, by simp, fun k _ hk => World.putObj_heap_other hk.2⟩
    rintro e a3 W3 hp
    cases e with
    | normal =>
      obtain ⟨q1, q2⟩ := hp
      obtain ⟨r1, r2, r3, r4⟩ := fin none W3 q1
      exact ⟨_, _, r1, .inl ⟨rfl, ⟨(hI _).put q2 _ (by omega) (by omega), r2, r3⟩, r4⟩⟩
    | ret =>
      obtain ⟨q1, q2⟩ := hp
      obtain ⟨r1, r2, r3, r4⟩ := fin (some .ret) W3 q1
      exact ⟨_, _, r1, .inr ⟨rfl, .ret, (hIx _ _).put q2 _ (by omega) (by omega), r2, r3⟩⟩
    | exit id =>
      obtain ⟨q1, q2⟩ := hp
      obtain ⟨r1, r2, r3, r4⟩ := fin (some (.exit id)) W3 q1
      exact ⟨_, _, r1, .inr ⟨rfl, .exit id, (hIx _ _).put q2 _ (by omega) (by omega), r2, r3⟩⟩
    | goto t =>
      obtain ⟨q1, q2⟩ := hp
      obtain ⟨r1, r2, r3, r4⟩ := fin (some (.goto t)) W3 q1
      exact ⟨_, _, r1, .inr ⟨rfl, .goto t, (hIx _ _).put q2 _ (by omega) (by omega), r2, r3⟩⟩
    | panic ch => exact hp.elim
    | outgrown => exact hp.elim
  · rintro e W2 ⟨⟨v, rfl⟩, (⟨xs, hS, q1, q2, q3⟩ | ⟨pre, hSp, c, q1, q2, q3⟩)⟩
    · exact ⟨none, _, run_endLoop (P := P) q2 (by simp), hdone xs _ hS ((hI _).put q1 _ (by omega) (by omega)) ((World.putObj_heap_other (by omega)).trans q3)⟩
    · exact ⟨some c, _, run_endLoop (P := P) q2 (by simp), hstop c pre _ hSp ((hIx _ _).put q1 _ (by omega) (by omega)) ((World.putObj_heap_other (by omega)).trans q3)⟩
end
end Go.Proofs.Ytpgnekejemockaa
