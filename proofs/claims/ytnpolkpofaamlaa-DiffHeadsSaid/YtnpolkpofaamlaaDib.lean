/- How lists of lines differ (layer 51): a block of cells as a function; the program's table of lengths. -/
import Derived.Test.YtnpolkpofaamlaaDia
import Derived.Test.YtnpolkpofaamlaaHde
import Derived.Laws.MakeOwn
import Derived.Deep.OwnRows
import Derived.Deep.Cut
namespace Go.Proofs.Ytnpolkpofaamlaa
open Go.RowKit
set_option linter.unusedVariables false
set_option linter.unusedSimpArgs false

/-- A block of n cells. -/
def FB (g n : Nat) (t : TypeId) (R : Nat → Value) (w : World) : Prop := ∃ cs : Array Value, w.heap[g]? = some (.cells cs t (0, 0)) ∧ cs.size = n ∧ ∀ k, k < n → cs[k]? = some (R k)
theorem FB.lt {g n : Nat} {t : TypeId} {R : Nat → Value} {w : World} (h : FB g n t R w) : g < w.heap.size := by
  obtain ⟨cs, h1, _⟩ := h
  exact blk_lt h1
theorem FB.cell {g n : Nat} {t : TypeId} {R : Nat → Value} {w : World} (h : FB g n t R w) {k : Nat} (hk : k < n) : w.cell? ⟨g, k, none⟩ = some (R k) := by
  obtain ⟨cs, h1, h2, h3⟩ := h
  exact blk_cell h1 (h3 k hk)
theorem FB.free {g n : Nat} {t : TypeId} {R : Nat → Value} {w : World} (h : FB g n t R w) (k : Nat) : w.frozen? ⟨g, k, none⟩ = false := by
  obtain ⟨cs, h1, h2, h3⟩ := h
  exact blk_free h1
theorem FB.kept {g n : Nat} {t : TypeId} {R : Nat → Value} {w w' : World} (h : FB g n t R w) (hk : w'.heap[g]? = w.heap[g]?) : FB g n t R w' := by
  obtain ⟨cs, h1, h2, h3⟩ := h
  exact ⟨cs, hk.trans h1, h2, h3⟩
theorem FB.below {g n B : Nat} {t : TypeId} {R : Nat → Value} {w w' : World} (h : FB g n t R w) (hb : Below B w w') (hg : g < B) : FB g n t R w' := h.kept (hb.block _ hg)
theorem FB.cong {g n : Nat} {t : TypeId} {R R' : Nat → Value} {w : World} (h : FB g n t R w) (e : ∀ k, k < n → R k = R' k) : FB g n t R' w := by
  obtain ⟨cs, h1, h2, h3⟩ := h
  exact ⟨cs, h1, h2, fun k hk => (h3 k hk).trans (congrArg some (e k hk))⟩
theorem FB.set {g n : Nat} {t : TypeId} {R : Nat → Value} {w : World} (h : FB g n t R w) {k : Nat} (hk : k < n) (v : Value) : FB g n t (fun x => if x = k then v else R x) (w.setCell ⟨g, k, none⟩ v) := by
  obtain ⟨cs, h1, h2, h3⟩ := h
  refine ⟨cs.setIfInBounds k v, blk_set h1 v, by rw [Array.size_setIfInBounds]; exact h2, fun x hx => ?_⟩
  rw [Array.getElem?_setIfInBounds]
  by_cases e : x = k
  · subst e
    rw [if_pos rfl, if_pos (by omega)]
    exact congrArg some (if_pos rfl).symm
  · rw [if_neg (fun h => e h.symm), h3 x hx]
    exact congrArg some (if_neg e).symm
theorem FB.other {g g' n o : Nat} {t : TypeId} {R : Nat → Value} {w : World} (h : FB g n t R w) (v : Value) (hne : g ≠ g') : FB g n t R (w.setCell ⟨g', o, none⟩ v) := h.kept (Below.heap_setCell _ _ _ _ hne)
theorem FB.made {n : Nat} {t : TypeId} {z : Value} (w : World) : FB w.heap.size n t (fun _ => z) (w.alloc (.cells (madeCells #[z] n) t)) := by
  refine ⟨_, heap_alloc_new w _, size_madeCells _ _, fun k hk => ?_⟩
  rw [Array.getElem?_eq_getElem (by rw [size_madeCells]; exact hk)]
  simp [madeCells, Nat.mod_one]
theorem FB.drew {g n : Nat} {t : TypeId} {R : Nat → Value} {w : World} (h : FB g n t R w) : FB g n t R w.drew := h.kept rfl
theorem FB.drewN {g n : Nat} {t : TypeId} {R : Nat → Value} {w : World} (h : FB g n t R w) {q : Nat} : FB g n t R (w.drewN q) := h.kept rfl
theorem bel_heap {B : Nat} {w a b : World} (h : Below B w a) (h1 : b.heap = a.heap) (h2 : b.os = a.os) (h3 : b.tape = a.tape) (h4 : b.output = a.output) : Below B w b := ⟨h2.trans h.os, h3.trans h.tape, h4.trans h.output, by rw [h1]; exact h.size, fun k hk => by rw [h1]; exact h.block k hk⟩
theorem idx_lt {i j n m : Nat} (hi : i < n) (hj : j < m) : i * m + j < n * m := by
  have : (i + 1) * m ≤ n * m := Nat.mul_le_mul_right m hi
  rw [Nat.add_mul, Nat.one_mul] at this
  omega
theorem idx_ne {i j i' j' m : Nat} (hj : j < m) (hj' : j' < m) (h : i * m + j = i' * m + j') : i = i' ∧ j = j' := by
  rcases Nat.lt_trichotomy i i' with h1 | h1 | h1
  · have : (i + 1) * m ≤ i' * m := Nat.mul_le_mul_right m h1
    rw [Nat.add_mul, Nat.one_mul] at this
    omega
  · subst h1
    exact ⟨rfl, by omega⟩
  · have : (i' + 1) * m ≤ i * m := Nat.mul_le_mul_right m h1
    rw [Nat.add_mul, Nat.one_mul] at this
    omega
theorem wrapD {x : Int} (h1 : -9223372036854775808 ≤ x) (h2 : x < 9223372036854775808) : IntKind.i64.wrap x = x := by
  simp [IntKind.wrap, IntKind.signed, IntKind.bits, wrap64]; omega
theorem wrapD64 {x : Int} (h1 : -9223372036854775808 ≤ x) (h2 : x < 9223372036854775808) : wrap64 x = x := by
  have := wrapD h1 h2
  rw [IntKind.wrap_i64] at this
  unfold wrap64
  omega
theorem Try.info32 : (Try.prog.info? 21).map (fun i => (i.zero, i.size, i.bytes)) = some (some (.int .i32 0), 1, 4) := by kernel_rfl
theorem Try.infoR32 : (Try.prog.info? 134).map (fun i => (i.zero, i.size, i.bytes)) = some (some (.slice none 0 0), 1, 24) := by kernel_rfl
theorem sl3_any (g lo M P : Nat) (h : lo + M ≤ P) (hM : 0 < M) (w : World) : (Instr.slice 134 (.slice (some ⟨g, 0, none⟩) P P) (some (.int .i64 (lo : Int))) (some (.int .i64 ((lo + M : Nat) : Int))) (some (.int .i64 ((lo + M : Nat) : Int)))).run Try.prog w = .ok (.slice (some ⟨g, lo, none⟩) M M) w := by
  have hs : ∀ w, (sizeOf (Try.prog.elem 134)).run Try.prog w = .ok 1 w := fun w => by kernel_rfl
  rw [run_slice_lhm (P := Try.prog) w 134 (some ⟨g, 0, none⟩) P P (by kernel_rfl) .i64 .i64 .i64 _ _ _ (by omega) (by omega) (Int.le_refl _) (by omega), hs]
  have e1 : ((lo : Int)).toNat = lo := Int.toNat_natCast lo
  have e2 : (((lo + M : Nat) : Int)).toNat = lo + M := Int.toNat_natCast _
  simp only [Result.andThen, e1, e2, sliced]
  rw [if_neg (by omega)]
  have e3 : lo + M - lo = M := by omega
  rw [e3]
  cases lo <;> simp [Addr.add]
theorem sl3_c (g lo m P : Nat) (h : lo + (m + 1) ≤ P) (w : World) : (Instr.slice 134 (.slice (some ⟨g, 0, none⟩) P P) (some (.int .i64 (lo : Int))) (some (.int .i64 ((lo : Int) + ((m : Int) + 1)))) (some (.int .i64 ((lo : Int) + ((m : Int) + 1))))).run Try.prog w = .ok (.slice (some ⟨g, lo, none⟩) (m + 1) (m + 1)) w := by
  have e : ((lo + (m + 1) : Nat) : Int) = (lo : Int) + ((m : Int) + 1) := by omega
  have h9 := sl3_any g lo (m + 1) P h (Nat.succ_pos m) w
  rw [e] at h9
  exact h9
def rowV (ft m : Nat) (i : Nat) : Value := .slice (some ⟨ft, i * m, none⟩) m m
def i32V (V : Nat → Int) (x : Nat) : Value := .int .i32 (V x)
/-- The table: row i at j holds how long the longest common part is of what stands from i on, and from j on. -/
structure LT (a b : Ln) (ft rt : Nat) (V : Nat → Int) (w : World) : Prop where
  r : FB rt (a.length + 1) 134 (rowV ft (b.length + 1)) w
  f : FB ft ((a.length + 1) * (b.length + 1)) 21 (i32V V) w
  v : ∀ i j, i ≤ a.length → j ≤ b.length → V (i * (b.length + 1) + j) = lcS a b i j
/-- What is filled in: the rows from k on, and of the row ahead what stands from q on. -/
def Vin (a b : Ln) (n m : Nat) (V : Nat → Int) (k q : Nat) : Prop := ∀ i j, i ≤ n → j ≤ m → (k ≤ i ∨ j = m ∨ (i + 1 = k ∧ q ≤ j)) → V (i * (m + 1) + j) = lcS a b i j
theorem vin_start {a b : Ln} {n m : Nat} (hn : a.length = n) (hm : b.length = m) : Vin a b n m (fun _ => 0) n (m + 1) := by
  intro i j hi hj h
  subst hn hm
  rcases h with h | h | ⟨_, h⟩
  · obtain rfl : i = a.length := Nat.le_antisymm hi h
    rw [lcS_end_l]; rfl
  · subst h
    rw [lcS_end_r]; rfl
  · omega
theorem Vin.row {a b : Ln} {n m : Nat} {V : Nat → Int} {k : Nat} (h : Vin a b n m V k (m + 1)) : Vin a b n m V k m := by
  intro i j hi hj h2
  rcases h2 with h2 | h2 | ⟨_, h2⟩
  · exact h i j hi hj (Or.inl h2)
  · exact h i j hi hj (Or.inr (Or.inl h2))
  · exact h i j hi hj (Or.inr (Or.inl (Nat.le_antisymm hj h2)))
theorem Vin.done {a b : Ln} {n m : Nat} {V : Nat → Int} {k : Nat} (h : Vin a b n m V (k + 1) 0) : Vin a b n m V k (m + 1) := by
  intro i j hi hj h2
  rcases h2 with h2 | h2 | ⟨_, h2⟩
  · rcases Nat.lt_or_eq_of_le h2 with h3 | h3
    · exact h i j hi hj (Or.inl h3)
    · subst h3
      exact h k j hi hj (Or.inr (Or.inr ⟨rfl, Nat.zero_le _⟩))
  · exact h i j hi hj (Or.inr (Or.inl h2))
  · omega
theorem Vin.next {a b : Ln} {n m : Nat} {V : Nat → Int} {k q : Nat} {v : Int} (h : Vin a b n m V (k + 1) (q + 1)) (hk : k < n) (hq : q < m) (hv : v = (lcS a b k q : Int)) : Vin a b n m (fun x => if x = k * (m + 1) + q then v else V x) (k + 1) q := by
  intro i j hi hj h2
  by_cases e : i = k ∧ j = q
  · obtain ⟨rfl, rfl⟩ := e
    show (if i * (m + 1) + j = i * (m + 1) + j then v else _) = _
    rw [if_pos rfl, hv]
  · show (if i * (m + 1) + j = k * (m + 1) + q then v else V (i * (m + 1) + j)) = _
    rw [if_neg (fun e2 => e (idx_ne (by omega) (by omega) e2))]
    refine h i j hi hj ?_
    rcases h2 with h2 | h2 | ⟨h2, h3⟩
    · exact Or.inl h2
    · exact Or.inr (Or.inl h2)
    · refine Or.inr (Or.inr ⟨h2, ?_⟩)
      rcases Nat.lt_or_eq_of_le h3 with h4 | h4
      · exact h4
      · exact (e ⟨by omega, h4.symm⟩).elim
theorem f32_set {V : Nat → Int} {p : Nat} {v : Int} {g n : Nat} {t : TypeId} {w : World} (h : FB g n t (fun x => if x = p then .int .i32 v else i32V V x) w) : FB g n t (i32V (fun x => if x = p then v else V x)) w := h.cong fun x _ => by
  show (if x = p then Value.int .i32 v else .int .i32 (V x)) = .int .i32 (if x = p then v else V x)
  by_cases e : x = p
  · rw [if_pos e, if_pos e]
  · rw [if_neg e, if_neg e]
def LenC (a b : Ln) (w : World) (e : Ending) (w' : World) : Prop := ∃ ft rt V, e = .returned (.slice (some ⟨rt, 0, none⟩) (a.length + 1) (a.length + 1)) ∧ LT a b ft rt V w' ∧ Below w.heap.size w w' ∧ w.heap.size ≤ ft ∧ w.heap.size ≤ rt
set_option maxRecDepth 100000 in
set_option maxHeartbeats 400000 in
theorem dlen_any (va vb : Value) (a b : Ln) (w : World) (ha : RdS w va a) (hb : RdS w vb b) (hla : a.length ≤ 100) (hlb : b.length ≤ 100) :
    Calls Try.prog 92 #[va, vb] w (LenC a b w) := by
  have HA := Kp.mk ha
  have HB := Kp.mk hb
  obtain ⟨aa, ca, rfl, _, _, -⟩ := ha
  obtain ⟨ab, cb, rfl, _, _, -⟩ := hb
  generalize hn : a.length = n at *
  generalize hm : b.length = m at *
  have HN := Kp.mk hn
  have HM := Kp.mk hm
  have hnm : (n + 1) * (m + 1) ≤ 101 * 101 := Nat.mul_le_mul (by omega) (by omega)
  obtain ⟨P, hP⟩ : ∃ P, P = (n + 1) * (m + 1) := ⟨_, rfl⟩
  have HPE := Kp.mk hP
  have w3 : wrap64 (((n : Int) + 1) * ((m : Int) + 1)) = (P : Int) := by
    have e : ((n : Int) + 1) * ((m : Int) + 1) = (P : Int) := by rw [hP, Int.natCast_mul]; rfl
    rw [e]
    exact wrapD64 (by omega) (by omega)
  have mk1 := fun w => run_make_row' (P := Try.prog) 134 21 (.int .i32 0) 4 Try.underlying134 Try.info32 rfl .i64 .i64 P (by omega) (by omega) w
  have mk2 := fun w => run_make_row' (P := Try.prog) 131 134 (.slice none 0 0) 24 Try.underlying131 Try.infoR32 rfl .i64 .i64 (n + 1) (by omega) (by omega) w
  have en : ((n + 1 : Nat) : Int) = (n : Int) + 1 := rfl
  rw [en] at mk2
  have HF0 := Kp.mk (FB.made (n := P) (t := 21) (z := .int .i32 0) w)
  have HR0 := Kp.mk (FB.made (n := n + 1) (t := 134) (z := .slice none 0 0) (w.alloc (.cells (madeCells #[.int .i32 0] P) 21)))
  have HB0 := Kp.mk (((Below.refl w.heap.size w).alloc (Nat.le_refl _) (.cells (madeCells #[.int .i32 0] P) 21)).alloc (by simp) (.cells (madeCells #[.slice none 0 0] (n + 1)) 134))
  have hsz : (w.alloc (.cells (madeCells #[.int .i32 0] P) 21)).heap.size = w.heap.size + 1 := World.size_alloc _ _
  rw [hsz] at HR0
  have HF1 := Kp.mk (show FB w.heap.size P 21 (fun _ => .int .i32 0) _ from HF0.out.below (((Below.refl (w.heap.size + 1) _).alloc (by rw [hsz]; exact Nat.le_refl _) (.cells (madeCells #[.slice none 0 0] (n + 1)) 134))) (by omega))
  have hP2 : P ≤ 10201 := by omega
  clear hsz HF0
  clear hn hm hnm hP en
  go_enter Try.func92, Try.ntmps92
  go_wp2_with fail
  go_loopw [26] (fun i wr => ∃ k : Nat, k ≤ n + 1 ∧ i = .int .i64 k ∧ FB w.heap.size P 21 (fun _ => .int .i32 0) wr ∧ FB (w.heap.size + 1) (n + 1) 134 (fun x => if x < k then rowV w.heap.size (m + 1) x else .slice none 0 0) wr ∧ Below w.heap.size w wr) (fun i _ => n + 1 - (intOf i).toNat)
  case atStart => exact ⟨0, by omega, rfl, HF1.out, HR0.out.cong (fun k _ => (if_neg (by omega)).symm), HB0.out⟩
  case round =>
    obtain ⟨k, hk, rfl, hf, hr, hb⟩ := hrel
    have HF := Kp.mk hf
    have HR := Kp.mk hr
    have HBW := Kp.mk hb
    clear hf hr hb
    by_cases hlt : k < n + 1
    · have hh : (k + 1) * (m + 1) = k * (m + 1) + (m + 1) := by rw [Nat.add_mul, Nat.one_mul]
      have hle : (k + 1) * (m + 1) ≤ P := by rw [HPE.out]; exact Nat.mul_le_mul_right _ hlt
      have w4 : wrap64 ((k : Int) * ((m : Int) + 1)) = ((k * (m + 1) : Nat) : Int) := by
        have e : (k : Int) * ((m : Int) + 1) = ((k * (m + 1) : Nat) : Int) := by rw [Int.natCast_mul]; rfl
        rw [e]
        exact wrapD64 (by omega) (by omega)
      have w5 : wrap64 (((k : Int) + 1) * ((m : Int) + 1)) = ((k * (m + 1) + (m + 1) : Nat) : Int) := by
        have e : ((k : Int) + 1) * ((m : Int) + 1) = ((k * (m + 1) + (m + 1) : Nat) : Int) := by rw [← hh, Int.natCast_mul]; rfl
        rw [e]
        exact wrapD64 (by omega) (by omega)
      have HRV := Kp.mk (show rowV w.heap.size (m + 1) k = .slice (some ⟨w.heap.size, k * (m + 1), none⟩) (m + 1) (m + 1) from rfl)
      rw [hh] at hle
      generalize k * (m + 1) = lo at *
      have q1 : (k : Int) < (n : Int) + 1 := by omega
      have ck := HR.out.cell hlt
      have fk := HR.out.free k
      rw [if_neg (Nat.lt_irrefl _)] at ck
      have hsl := fun wz => sl3_c w.heap.size lo m P hle wz
      clear hh
      go_wp2_with fail
      go_roundw
      case rel => exact ⟨k + 1, by omega, by go_num, HF.out.other _ (by omega), (HR.out.set hlt _).cong (fun x hx => by
          by_cases e : x = k
          · subst e
            rw [if_pos rfl, if_pos (Nat.lt_succ_self _), HRV.out]
          · rw [if_neg e]
            by_cases e2 : x < k
            · rw [if_pos e2, if_pos (by omega)]
            · rw [if_neg e2, if_neg (by omega)]), HBW.out.setCell (p := ⟨w.heap.size + 1, k, none⟩) (Nat.le_succ _) _⟩
      case measure => simp [intOf]; omega
    · have hkn : k = n + 1 := by omega
      subst hkn
      have HR1 := Kp.mk (show FB (w.heap.size + 1) (n + 1) 134 (rowV w.heap.size (m + 1)) wr from HR.out.cong fun x hx => if_pos hx)
      have HVI := Kp.mk (vin_start (n := n) (m := m) HN.out HM.out)
      have HPI := Kp.mk (fun (k q : Nat) (hk : k < n + 1) (hq : q < m + 1) => (show k * (m + 1) + q < P by rw [HPE.out]; exact idx_lt hk hq))
      have HF1 := Kp.mk (show FB w.heap.size P 21 (i32V (fun _ => 0)) wr from HF.out)
      clear w3 mk1 mk2 hlt HF HR HR0 HB0 hP2
      go_wp2_with fail
      go_loopw [9] (fun i wr => ∃ (k : Nat) (V : Nat → Int), k ≤ n ∧ i = .int .i64 ((k : Int) - 1) ∧ FB w.heap.size P 21 (i32V V) wr ∧ FB (w.heap.size + 1) (n + 1) 134 (rowV w.heap.size (m + 1)) wr ∧ Vin a b n m V k (m + 1) ∧ Below w.heap.size w wr) (fun i _ => (intOf i + 1).toNat)
      case atStart => exact ⟨n, _, Nat.le_refl _, rfl, HF1.out, HR1.out, HVI.out, HBW.out⟩
      case round =>
        obtain ⟨k, V, hk, rfl, hf, hr, hv, hb⟩ := hrel
        have HF := Kp.mk hf
        have HR := Kp.mk hr
        have HV := Kp.mk hv
        have HBO := Kp.mk hb
        clear hf hr hv hb HF1 HR1 HBW
        rcases k with _ | k
        · rw [show (((0 : Nat) : Int) - 1) = -1 from rfl]
          go_wp2_with fail
          go_ret
          refine ⟨w.heap.size, w.heap.size + 1, V, by rw [HN.out]; rfl, ⟨by rw [HN.out, HM.out]; exact HR.out, ?_, fun i j hi hj => ?_⟩, HBO.out, Nat.le_refl _, Nat.le_succ _⟩
          · rw [HN.out, HM.out, ← HPE.out]
            exact HF.out
          · rw [HM.out]
            rw [HN.out] at hi
            rw [HM.out] at hj
            exact HV.out i j hi hj (Or.inl (Nat.zero_le _))
        · rw [show (((k + 1 : Nat) : Int) - 1) = (k : Int) by omega]
          have HVK := Kp.mk HV.out.row
          have HKN := Kp.mk hk
          have HKB := Kp.mk HBO.out
          go_wp2_with fail
          go_loopw [10] (fun j wr => ∃ (q : Nat) (V : Nat → Int), q ≤ m ∧ j = .int .i64 ((q : Int) - 1) ∧ FB w.heap.size P 21 (i32V V) wr ∧ FB (w.heap.size + 1) (n + 1) 134 (rowV w.heap.size (m + 1)) wr ∧ Vin a b n m V (k + 1) q ∧ Below w.heap.size w wr) (fun j _ => (intOf j + 1).toNat)
          case atStart => exact ⟨m, V, Nat.le_refl _, rfl, HF.out, HR.out, HVK.out, HKB.out⟩
          case round =>
            obtain ⟨q, V, hq, rfl, hf, hr, hv, hb⟩ := hrel
            replace HF := Kp.mk hf
            replace HR := Kp.mk hr
            replace HV := Kp.mk hv
            replace HBO := Kp.mk hb
            clear hf hr hv hb HKB HVK
            rcases q with _ | q
            · rw [show (((0 : Nat) : Int) - 1) = -1 from rfl]
              have HVD := Kp.mk HV.out.done
              go_wp2_with fail
              go_roundw
              case rel => exact ⟨k, V, by omega, by go_num, HF.out, HR.out, HVD.out, HBO.out⟩
              case measure => simp [intOf] <;> omega
            · rw [show (((q + 1 : Nat) : Int) - 1) = (q : Int) by omega]
              have hkn : k < n := hk
              have hqm : q < m := hq
              have hka : k < a.length := by have := HN.out; omega
              have hqb : q < b.length := by have := HM.out; omega
              obtain ⟨ga, oa, rfl, hgl, da⟩ := rds_cells (HA.out.below HBO.out) (by omega)
              obtain ⟨gb, ob, rfl, hgl2, db⟩ := rds_cells (HB.out.below HBO.out) (by omega)
              have ca1 := da k hka
              have cb1 := db q hqb
              have HST := Kp.mk (lcS_step hka hqb)
              have HNX := Kp.mk (fun v (h : v = (lcS a b k q : Int)) => HV.out.next hkn hqm h)
              have HL := Kp.mk (fun i j => lcS_le a b i j)
              have r0 := HR.out.cell (k := k) (by omega)
              have r1 := HR.out.cell (k := k + 1) (by omega)
              have f11 := HF.out.cell (HPI.out (k + 1) (q + 1) (by omega) (by omega))
              have f10 := HF.out.cell (HPI.out (k + 1) q (by omega) (by omega))
              have f01 := HF.out.cell (HPI.out k (q + 1) (by omega) (by omega))
              have f00 := HF.out.cell (HPI.out k q (by omega) (by omega))
              have z00 := HF.out.free (k * (m + 1) + q)
              have v11 : V ((k + 1) * (m + 1) + (q + 1)) = lcS a b (k + 1) (q + 1) := HV.out _ _ (by omega) (by omega) (Or.inl (Nat.le_refl _))
              have v10 : V ((k + 1) * (m + 1) + q) = lcS a b (k + 1) q := HV.out _ _ (by omega) (by omega) (Or.inl (Nat.le_refl _))
              have v01 : V (k * (m + 1) + (q + 1)) = lcS a b k (q + 1) := HV.out _ _ (by omega) (by omega) (Or.inr (Or.inr ⟨rfl, Nat.le_refl _⟩))
              have HSE := Kp.mk (fun v => HF.out.set (HPI.out k q (by omega) (by omega)) v)
              unfold i32V at f11 f10 f01 f00
              unfold rowV at r0 r1
              rw [v11] at f11
              rw [v10] at f10
              rw [v01] at f01
              have b11 := HL.out (k + 1) (q + 1)
              have b10 := HL.out (k + 1) q
              have b01 := HL.out k (q + 1)
              have hna : a.length ≤ 100 := by have := HN.out; omega
              clear da db v11 v10 v01
              generalize k * (m + 1) = l0 at *
              generalize (k + 1) * (m + 1) = l1 at *
              generalize lcS a b (k + 1) (q + 1) = x11 at *
              generalize lcS a b (k + 1) q = x10 at *
              generalize lcS a b k (q + 1) = x01 at *
              generalize lcS a b k q = x00 at *
              generalize V (l0 + q) = y00 at *
              generalize a[k] = s at *
              generalize b[q] = u at *
              by_cases he : s = u
              · subst he
                have hx : x00 = x11 + 1 := HST.out.trans (if_pos rfl)
                have w32 : IntKind.i32.wrap ((x11 : Int) + 1) = (x11 : Int) + 1 := by
                  simp [IntKind.wrap, IntKind.signed, IntKind.bits] <;> omega
                have HNX2 := Kp.mk (HNX.out ((x11 : Int) + 1) (by rw [hx]; rfl))
                have he2 : (s.toList == s.toList) = true := by simp
                clear hx HST
                go_upto_region 15 with fail
                go_quiet (fail)
                go_upto_region 16 with fail
                go_region
                all_goals
                  go_wp2_with fail
                  go_roundw
                  case rel => exact ⟨q, _, by omega, by go_num, f32_set ((HSE.out _).kept rfl), (HR.out.other (g' := w.heap.size) (o := l0 + q) _ (by omega)).kept rfl, HNX2.out, bel_heap (HBO.out.setCell (p := ⟨w.heap.size, l0 + q, none⟩) (Nat.le_refl _) _) rfl rfl rfl rfl⟩
                  case measure => simp [intOf] <;> omega
              · have he2 := ba_tlb he
                have hx : x00 = max x10 x01 := HST.out.trans (if_neg he)
                have HNX2 := Kp.mk (HNX.out (if x10 < x01 then (x01 : Int) else (x10 : Int)) (by rw [hx]; split <;> omega))
                clear hx HST
                go_upto_region 15 with fail
                go_quiet (fail)
                go_upto_region 17 with fail
                go_region
                all_goals
                  go_wp2_with fail
                  go_roundw
                  case rel => exact ⟨q, _, by omega, by go_num, f32_set ((HSE.out _).kept rfl), (HR.out.other (g' := w.heap.size) (o := l0 + q) _ (by omega)).kept rfl, HNX2.out, bel_heap (HBO.out.setCell (p := ⟨w.heap.size, l0 + q, none⟩) (Nat.le_refl _) _) rfl rfl rfl rfl⟩
                  case measure => simp [intOf] <;> omega
end Go.Proofs.Ytnpolkpofaamlaa
