/- First lines (layer 15): a response's line read, the program's. -/
import Derived.Test.YtnpolkpofaamlaaSto
import Derived.Test.YtnpolkpofaamlaaStm
import Derived.Deep.DeepCutAuto
import Derived.RegionTactic
import Derived.ChangeAlike
import Derived.Deep.RegionWith
namespace Go.Proofs.Ytnpolkpofaamlaa
open Go.RowKit
set_option linter.unusedVariables false
set_option linter.unusedSimpArgs false

theorem blank_yes {s : ByteArray} (h : 0 < s.size) (h2 : bt s 0 = 32) : (s.extract 0 1).toList = [32] ∧ ((s.extract 0 1).toList == [32]) = true := by
  have : (s.extract 0 1).toList = [32] := by
    rw [ByteArray.toList_eq, Lib.extract_data]
    cases hq : s.data.toList with
    | nil => rw [ba_size', hq] at h; simp at h
    | cons c r =>
      have hb0 := bt_cons hq
      rw [h2] at hb0
      have : c = 32 := UInt8.toNat_inj.1 (by rw [← hb0]; rfl)
      subst this
      rfl
  exact ⟨this, by rw [this]; rfl⟩
def StaPost (s : ByteArray) (w : World) (e : Ending) (w' : World) : Prop :=
  e = .returned (.tuple #[.agg #[.string ⟨#[]⟩, .string ⟨#[]⟩, .int .i64 (staN s), .int .i64 (staS s), .string (staR s), .slice none 0 0], .int .i64 (staE s)]) ∧ Below w.heap.size w w'
theorem sta_min {s : ByteArray} (h : 3 ≤ (cut2 s).size) : sNum s = (cut2 s).extract 0 3 ∧ sRea s = (cut2 s).extract 3 (cut2 s).size := by
  unfold sNum sRea
  rw [Nat.min_eq_left h]
  exact ⟨rfl, rfl⟩
theorem sta_min2 {s : ByteArray} (h : (cut2 s).size ≤ 3) : sNum s = cut2 s ∧ sRea s = ByteArray.empty := by
  unfold sNum sRea
  rw [Nat.min_eq_right h]
  refine ⟨ba_ext ?_, ?_⟩
  · rw [Lib.extract_data, List.drop_zero]
    exact List.take_of_length_le (by rw [ba_size']; omega)
  · exact emptyS (by rw [ext_len _ (Nat.le_refl _)]; omega)
def SMid (s : ByteArray) (w : World) (s7 s8 : Value) (wx : World) : Prop :=
  ∃ b7 b8 : Nat, s7 = .pointer (some ⟨b7, 0, none⟩) ∧ s8 = .pointer (some ⟨b8, 0, none⟩) ∧ wx.heap[b7]? = some (.cells #[.string (sNum s)] 9 (0, 0)) ∧ wx.heap[b8]? = some (.cells #[.string (sRea s)] 9 (0, 0)) ∧
    wx.heap[w.heap.size]? = some (.cells #[.string ⟨#[]⟩, .string ⟨#[]⟩, .int .i64 0, .int .i64 0, .string ⟨#[]⟩, .slice none 0 0] 50 (0, 0)) ∧ wx.heap[w.heap.size + 1]? = some (.cells #[.bool (decide (blk1 s < s.size))] 4 (0, 0)) ∧ Below w.heap.size w wx
theorem sta_tower (w : World) (A B C D : Obj) (n1 : Nat) :
    let W := (((((w.alloc A).drewN n1).alloc B).alloc C).alloc D).drew
    W.heap[w.heap.size]? = some A ∧ W.heap[w.heap.size + 1]? = some B ∧ W.heap[w.heap.size + 1 + 1]? = some C ∧ W.heap[w.heap.size + 1 + 1 + 1]? = some D ∧ Below w.heap.size w W := by
  have a1 : ((w.alloc A).drewN n1).heap.size = w.heap.size + 1 := World.size_alloc _ _
  have a2 : (((w.alloc A).drewN n1).alloc B).heap.size = w.heap.size + 1 + 1 := by rw [World.size_alloc, a1]
  have a3 : ((((w.alloc A).drewN n1).alloc B).alloc C).heap.size = w.heap.size + 1 + 1 + 1 := by rw [World.size_alloc, a2]
  have b0 := Below.refl w.heap.size w
  refine ⟨?_, ?_, ?_, ?_, ?_⟩
  · exact blk_drewN (blk_alloc (blk_alloc (blk_alloc (blk_drewN (heap_alloc_new w A) n1)))) 1
  · exact blk_drewN (blk_alloc (blk_alloc (tw_new _ B _ a1))) 1
  · exact blk_drewN (blk_alloc (tw_new _ C _ a2)) 1
  · exact blk_drewN (tw_new _ D _ a3) 1
  · have c1 : Below w.heap.size w ((w.alloc A).drewN n1) := (b0.alloc (Nat.le_refl _) A).trans ((gdrewN _ n1).mono (by simp))
    exact (((c1.alloc (by omega) B).alloc (by omega) C).alloc (by omega) D).drew
theorem sta_chk (s : ByteArray) : chkE [((decide (blk1 s < s.size) && decide (minE (cut1 s) ≠ 3)), 3), ((decide ((sNum s).size = 3) && (decide (numE 10 (sNum s) 599 = 0) || decide (numE 10 (sNum s) 599 = 5))), 3), ((decide ((sRea s).size = 0) || decide (bt (sRea s) 0 = 32)), 3), (decide (minE (cut1 s) = 0), minE (cut1 s)), ((decide (numE 10 (sNum s) 599 = 0) && decide (100 ≤ numV 10 (sNum s) 599)), 12), (allB valueB (sRea s), 7)] = staE s := by
  have gen : ∀ (a b c d e f : Bool) (x : Int), chkE [(a, 3), (b, 3), (c, 3), (d, x), (e, 12), (f, 7)] = if (a && b && c) = false then 3 else if d = false then x else if e = false then 12 else if f = false then 7 else 0 := by
    intro a b c d e f x
    cases a <;> cases b <;> cases c <;> cases d <;> cases e <;> cases f <;> rfl
  refine (gen (sA s) (sB s) (sC s) _ _ _ _).trans ?_
  have hiff := staF_iff s
  cases hF : staF s
  · have : (sA s && sB s && sC s) = false := by
      cases h1 : sA s <;> cases h2 : sB s <;> cases h3 : sC s <;> first | rfl | skip
      exact absurd (hiff.2 ⟨h1, h2, h3⟩) (by rw [hF]; decide)
    rw [if_pos this]
    unfold staE
    rw [if_pos hF]
  · obtain ⟨h1, h2, h3⟩ := hiff.1 hF
    obtain ⟨h0, hb, hc, hn, hr, hf, -⟩ := sta_parts hF
    obtain ⟨-, -, hlo, hhi⟩ := sta_num hF
    have hre := (sta_reason hF).1
    rw [h1, h2, h3, hc, hre]
    unfold staE
    rw [hF]
    generalize minE (s.extract 0 8) = x
    generalize allB valueB (staX s) = y
    by_cases hx : x = 0
    · subst hx
      by_cases hv : staV s ≤ 599
      · obtain ⟨e1, e2⟩ := hlo hv
        rw [e1, e2]
        by_cases hv1 : 100 ≤ staV s
        · have n1 : ¬ (staV s < 100 ∨ 599 < staV s) := by omega
          have n2 : (100 : Int) ≤ (staV s : Int) := by omega
          simp [n1, n2]
        · have n1 : (staV s < 100 ∨ 599 < staV s) := by omega
          have n2 : ¬ (100 : Int) ≤ (staV s : Int) := by omega
          simp only [n1, n2]
          rfl
      · obtain ⟨e1, e2⟩ := hhi (by omega)
        have n1 : (staV s < 100 ∨ 599 < staV s) := by omega
        rw [e1, e2]
        simp only [n1]
        rfl
    · simp [hx]
end Go.Proofs.Ytnpolkpofaamlaa
