/- All values of a name as one list (layer 10), on both sides. -/
import Derived.Test.YtocnecbhpofdgaaHde
import Derived.Test.YtocnecbhpofdgaaShj
namespace Go.Proofs.Ytocnecbhpofdgaa
open Go.RowKit
set_option linter.unusedVariables false
set_option linter.unusedSimpArgs false

def hJoin (L : List ByteArray) : ByteArray := ⟨(Lib.join (L.map (·.data.toList)) [44, 32]).toArray⟩
theorem hTail_snoc (sep y : List UInt8) (r : List (List UInt8)) : Lib.joinTail sep (r ++ [y]) = Lib.joinTail sep r ++ sep ++ y := by simp [Lib.joinTail]
theorem hjoin_snoc (sep y : List UInt8) : ∀ xs : List (List UInt8), xs ≠ [] → Lib.join (xs ++ [y]) sep = Lib.join xs sep ++ sep ++ y
  | [], h => (h rfl).elim
  | x :: r, _ => by
    rw [List.cons_append, Lib.join_cons, Lib.join_cons, hTail_snoc]
    simp
theorem hTail_le : ∀ r : List (List UInt8), (∀ x ∈ r, x.length ≤ 100000) → (Lib.joinTail [44, 32] r).length ≤ r.length * 100002
  | [], _ => by simp [Lib.joinTail]
  | y :: r, h => by
    have h0 := hTail_le r fun x hx => h x (by simp [hx])
    have h1 := h y (by simp)
    simp only [Lib.joinTail, List.map_cons, List.flatten_cons, List.length_append, List.length_cons, List.length_nil] at h0 ⊢
    omega
theorem hjoin_len {L : List ByteArray} (h : ∀ s ∈ L, s.size ≤ 100000) : (Lib.join (L.map (·.data.toList)) [44, 32]).length ≤ L.length * 100002 := by
  cases L with
  | nil => simp [Lib.join]
  | cons x r =>
    have h1 : x.data.toList.length ≤ 100000 := by have := h x (by simp); simpa using this
    have h2 := hTail_le (r.map (·.data.toList)) fun y hy => by
      obtain ⟨s, hs, rfl⟩ := List.mem_map.1 hy
      have := h s (by simp [hs])
      simpa using this
    rw [List.map_cons, Lib.join_cons, List.length_append, List.length_cons]
    rw [List.length_map] at h2
    omega
theorem hJoin_size {L : List ByteArray} (h : ∀ s ∈ L, s.size ≤ 100000) : (hJoin L).size ≤ L.length * 100002 := by
  have := hjoin_len h
  show (Lib.join (L.map (·.data.toList)) [44, 32]).toArray.size ≤ _
  rw [List.size_toArray]
  exact this
theorem hJoin_zero (x : ByteArray) : (⟨#[]⟩ : ByteArray) ++ x = hJoin [x] := by
  unfold hJoin
  rw [List.map_cons, List.map_nil, Lib.join_one]
  apply ByteArray.ext
  simp
theorem hJoin_snoc (L : List ByteArray) (x : ByteArray) (h : L ≠ []) : hJoin (L ++ [x]) = hJoin L ++ ⟨#[44, 32]⟩ ++ x := by
  unfold hJoin
  rw [List.map_append, List.map_cons, List.map_nil, hjoin_snoc _ _ _ (by simpa using h)]
  apply ByteArray.ext
  simp
theorem hJoin_take {L : List ByteArray} {k : Nat} (h : k < L.length) (h0 : 0 < k) : hJoin (L.take (k + 1)) = hJoin (L.take k) ++ ⟨#[44, 32]⟩ ++ L[k] := by
  rw [List.take_succ_eq_append_getElem h, hJoin_snoc]
  intro e
  have := congrArg List.length e
  rw [List.length_take, List.length_nil] at this
  omega
theorem hJoin_one {L : List ByteArray} (h : 0 < L.length) : hJoin (L.take (0 + 1)) = ⟨#[]⟩ ++ L[0] := by
  rw [List.take_succ_eq_append_getElem h, hJoin_zero]
  rfl
theorem hAll_sm {l : List Fld} (nm : ByteArray) (hz : ∀ p ∈ l, FldSm p) : ∀ s ∈ hAll l nm, s.size ≤ 100000 := by
  intro s hs
  obtain ⟨p, hp, rfl⟩ := List.mem_map.1 hs
  exact (hz p (List.mem_filter.1 hp).1).2
theorem hjoin_any (v : Value) (L : List ByteArray) (w : World) (hv : RdS w v L) (hz : ∀ s ∈ L, s.size ≤ 100000) (hl : L.length ≤ 100000) :
    Calls Try.prog 45 #[v] w fun e w' => e = .returned (.string (hJoin L)) ∧ Below w.heap.size w w' := by
  have HV := Kp.mk hv
  obtain ⟨a, cap, rfl, hc1, hc2, -⟩ := hv
  have HL := Kp.mk (hjoin_len hz)
  clear hz
  go_enter Try.func45, Try.ntmps45
  go_wp2_with fail
  cases L with
  | nil =>
    refine (Try.strings_Join_none a cap ⟨#[44, 32]⟩ _).mono ?_
    rintro e w1 ⟨rfl, rfl⟩
    go_wp2_with fail
    go_ret
    exact ⟨rfl, Below.refl _ _⟩
  | cons x r =>
    obtain ⟨g, o, rfl, hgl, d0⟩ := rds_cells HV.out (by simp)
    refine (Try.strings_Join g o cap (x :: r) ⟨#[44, 32]⟩ _ (fun j y hy => ?_) hgl (by simp at hl ⊢; omega) hc1 ?_).mono ?_
    · obtain ⟨hj, rfl⟩ := List.getElem?_eq_some_iff.1 hy
      exact d0 j hj
    · have := HL.out
      have h2 : (x :: r).length * 100002 ≤ 140737488355328 := by omega
      exact Nat.le_trans this h2
    · rintro e w1 ⟨rfl, hb⟩
      go_wp2_with fail
      go_ret
      exact ⟨rfl, hb⟩
set_option maxHeartbeats 1000000 in
theorem rhjoin_any (v : Value) (L : List ByteArray) (w : World) (hv : RdS w v L) (hz : ∀ s ∈ L, s.size ≤ 100000) (hl : L.length ≤ 100000) :
    Calls Try.prog 49 #[v] w fun e w' => e = .returned (.string (hJoin L)) ∧ Below w.heap.size w w' := by
  have HV := Kp.mk hv
  have HZ := Kp.mk hz
  obtain ⟨a, cap, rfl, hc1, hc2, -⟩ := hv
  clear hz hc2
  go_enter Try.func49, Try.ntmps49
  go_wp2_with fail
  go_loopw [3, 4] (fun s i wr => ∃ k : Nat, k ≤ L.length ∧ i = .int .i64 k ∧ s = .string (hJoin (L.take k)) ∧ Below w.heap.size w wr) (fun _ i _ => L.length - (intOf i).toNat)
  case atStart => exact ⟨0, by omega, rfl, rfl, Below.refl _ _⟩
  case round =>
    obtain ⟨k, hk, rfl, rfl, hb⟩ := hrel
    have HB := Kp.mk hb
    clear hb
    have hsz : (hJoin (L.take k)).size ≤ 10000300000 := by
      have := hJoin_size (L := L.take k) fun s hs => HZ.out s (List.mem_of_mem_take hs)
      rw [List.length_take] at this
      omega
    by_cases hlt : k < L.length
    · obtain ⟨g, o, rfl, hgl, d0⟩ := rds_cells (HV.out.below HB.out) (by omega)
      have c1 := d0 k hlt
      have m1 := HZ.out L[k] (List.getElem_mem hlt)
      have q0 : (0 : Int) ≤ (k : Int) := by omega
      have q1 : (k : Int) < (L.length : Int) := by omega
      clear d0
      by_cases h0 : 0 < k
      · have HT := Kp.mk (hJoin_take hlt h0)
        have q2 : (0 : Int) < (k : Int) := by omega
        generalize L[k] = x at *
        generalize hJoin (L.take k) = s at *
        have q3 : (s ++ (⟨#[44, 32]⟩ : ByteArray)).size ≤ 10000300002 := by rw [ByteArray.size_append]; show s.size + 2 ≤ _; omega
        go_wp2_with fail
        go_roundw
        case rel => exact ⟨k + 1, by omega, by go_num, by rw [HT.out], HB.out⟩
        case measure => simp [intOf]; omega
      · have hk0 : k = 0 := by omega
        subst hk0
        have HT := Kp.mk (hJoin_one hlt)
        have HJ := Kp.mk (show hJoin (L.take 0) = ⟨#[]⟩ from rfl)
        generalize L[0] = x at *
        have c1' : wr.cell? ⟨g, o, none⟩ = some (.string x) := c1
        clear c1
        rw [HJ.out]
        go_wp2_with fail
        go_roundw
        case rel => exact ⟨1, by omega, by go_num, by rw [← HT.out], HB.out⟩
        case measure => simp [intOf]; omega
    · have HK := Kp.mk (show L.take k = L from List.take_of_length_le (by omega))
      go_wp2_with fail
      go_ret
      exact ⟨by rw [HK.out]; rfl, HB.out⟩
theorem hIs_int (l : List Fld) (nm : ByteArray) : hIs l nm = decide ((0 : Int) < ((hAll l nm).length : Int)) := decide_eq_decide.2 (by omega)
end Go.Proofs.Ytocnecbhpofdgaa
