/- First lines (layer 15): a response's line read, the program's. -/
import Derived.Test.YtcbfhlnnfnpkdaaGreatDoorSto
import Derived.Test.YtcbfhlnnfnpkdaaGreatDoorStm
import Derived.Deep.DeepCutAuto
import Derived.RegionTactic
import Derived.ChangeAlike
import Derived.Deep.RegionWith
namespace Go.Proofs.YtcbfhlnnfnpkdaaGreatDoor
open Go.RowKit
set_option linter.unusedVariables false
set_option linter.unusedSimpArgs false

theorem blank_yes {s : ByteArray} (h : 0 < s.size) (h2 : bt s 0 = 32) : (s.extract 0 1).toList = [32] ∧ ((s.extract 0 1).toList == [32]) = true := by
  have : (s.extract 0 1).toList = [32] := by
    rw [ByteArray.toList_eq, Lib.extract_data]
    cases hq : s.data.toList with
    | nil => rw [ba_size', hq] at h; simp at h
    | cons c r =>
      have hb0 := bt_cons hq
      rw [h2] at hb0
      have : c = 32 := UInt8.toNat_inj.1 (by rw [← hb0]; rfl)
      subst this
      rfl
  exact ⟨this, by rw [this]; rfl⟩
set_option maxRecDepth 100000 in
set_option maxHeartbeats 1000000 in
theorem trimS_yes (s : ByteArray) (w : World) (hs : s.size ≤ 100000000) (h : 0 < s.size) (h2 : bt s 0 = 32) :
    Calls Tryz.prog 76 #[.string s, .string ⟨#[32]⟩] w fun e w' => e = .returned (.string (s.extract 1 s.size)) ∧ w' = w := by
  have q1 : (1 : Int) ≤ (s.size : Int) := by omega
  obtain ⟨p1, p2⟩ := blank_yes h h2
  have has : ∀ w, Calls Tryz.prog 122 #[.string s, .string ⟨#[32]⟩] w fun e w' => e = .returned (.bool true) ∧ w' = w := fun w => by
    go_enter Tryz.func122, Tryz.ntmps122
    go_wp2_with fail
    go_ret
    exact ⟨rfl, rfl⟩
  have HH := Kp.mk has
  clear has p1 p2
  have inner : ∀ w, Calls Tryz.prog 108 #[.string s, .string ⟨#[32]⟩] w fun e w' => e = .returned (.string (s.extract 1 s.size)) ∧ w' = w := fun w => by
    go_enter Tryz.func108, Tryz.ntmps108
    go_wp2_with fail
    refine (HH.out _).mono ?_
    rintro e w1 ⟨rfl, rfl⟩
    go_wp2_with fail
    go_ret
    exact ⟨rfl, rfl⟩
  have HI := Kp.mk inner
  clear inner
  go_enter Tryz.func76, Tryz.ntmps76
  go_wp2_with fail
  refine (HI.out _).mono ?_
  rintro e w1 ⟨rfl, rfl⟩
  go_wp2_with fail
  go_ret
  exact ⟨rfl, rfl⟩
set_option maxRecDepth 100000 in
set_option maxHeartbeats 1000000 in
theorem trimS_emp (w : World) :
    Calls Tryz.prog 76 #[.string ⟨#[]⟩, .string ⟨#[32]⟩] w fun e w' => e = .returned (.string ⟨#[]⟩) ∧ w' = w := by
  have has : ∀ w, Calls Tryz.prog 122 #[.string ⟨#[]⟩, .string ⟨#[32]⟩] w fun e w' => e = .returned (.bool false) ∧ w' = w := fun w => by
    go_enter Tryz.func122, Tryz.ntmps122
    go_wp2_with fail
    go_ret
    exact ⟨rfl, rfl⟩
  have HH := Kp.mk has
  clear has
  have inner : ∀ w, Calls Tryz.prog 108 #[.string ⟨#[]⟩, .string ⟨#[32]⟩] w fun e w' => e = .returned (.string ⟨#[]⟩) ∧ w' = w := fun w => by
    go_enter Tryz.func108, Tryz.ntmps108
    go_wp2_with fail
    refine (HH.out _).mono ?_
    rintro e w1 ⟨rfl, rfl⟩
    go_wp2_with fail
    go_ret
    exact ⟨rfl, rfl⟩
  have HI := Kp.mk inner
  clear inner
  go_enter Tryz.func76, Tryz.ntmps76
  go_wp2_with fail
  refine (HI.out _).mono ?_
  rintro e w1 ⟨rfl, rfl⟩
  go_wp2_with fail
  go_ret
  exact ⟨rfl, rfl⟩
def StaPost (s : ByteArray) (w : World) (e : Ending) (w' : World) : Prop :=
  e = .returned (.tuple #[.agg #[.string ⟨#[]⟩, .string ⟨#[]⟩, .int .i64 (staN s), .int .i64 (staS s), .string (staR s), .slice none 0 0], .int .i64 (staE s)]) ∧ Below w.heap.size w w'
theorem sta_min {s : ByteArray} (h : 3 ≤ (cut2 s).size) : sNum s = (cut2 s).extract 0 3 ∧ sRea s = (cut2 s).extract 3 (cut2 s).size := by
  unfold sNum sRea
  rw [Nat.min_eq_left h]
  exact ⟨rfl, rfl⟩
theorem sta_min2 {s : ByteArray} (h : (cut2 s).size ≤ 3) : sNum s = cut2 s ∧ sRea s = ByteArray.empty := by
  unfold sNum sRea
  rw [Nat.min_eq_right h]
  refine ⟨ba_ext ?_, ?_⟩
  · rw [Lib.extract_data, List.drop_zero]
    exact List.take_of_length_le (by rw [ba_size']; omega)
  · exact emptyS (by rw [ext_len _ (Nat.le_refl _)]; omega)
def SMid (s : ByteArray) (w : World) (s7 s8 : Value) (wx : World) : Prop :=
  ∃ b7 b8 : Nat, s7 = .pointer (some ⟨b7, 0, none⟩) ∧ s8 = .pointer (some ⟨b8, 0, none⟩) ∧ wx.heap[b7]? = some (.cells #[.string (sNum s)] 9 (0, 0)) ∧ wx.heap[b8]? = some (.cells #[.string (sRea s)] 9 (0, 0)) ∧
    wx.heap[w.heap.size]? = some (.cells #[.string ⟨#[]⟩, .string ⟨#[]⟩, .int .i64 0, .int .i64 0, .string ⟨#[]⟩, .slice none 0 0] 29 (0, 0)) ∧ wx.heap[w.heap.size + 1]? = some (.cells #[.bool (decide (blk1 s < s.size))] 4 (0, 0)) ∧ Below w.heap.size w wx
theorem sta_tower (w : World) (A B C D : Obj) (n1 : Nat) :
    let W := (((((w.alloc A).drewN n1).alloc B).alloc C).alloc D).drew
    W.heap[w.heap.size]? = some A ∧ W.heap[w.heap.size + 1]? = some B ∧ W.heap[w.heap.size + 1 + 1]? = some C ∧ W.heap[w.heap.size + 1 + 1 + 1]? = some D ∧ Below w.heap.size w W := by
  have a1 : ((w.alloc A).drewN n1).heap.size = w.heap.size + 1 := World.size_alloc _ _
  have a2 : (((w.alloc A).drewN n1).alloc B).heap.size = w.heap.size + 1 + 1 := by rw [World.size_alloc, a1]
  have a3 : ((((w.alloc A).drewN n1).alloc B).alloc C).heap.size = w.heap.size + 1 + 1 + 1 := by rw [World.size_alloc, a2]
  have b0 := Below.refl w.heap.size w
  refine ⟨?_, ?_, ?_, ?_, ?_⟩
  · exact blk_drewN (blk_alloc (blk_alloc (blk_alloc (blk_drewN (heap_alloc_new w A) n1)))) 1
  · exact blk_drewN (blk_alloc (blk_alloc (tw_new _ B _ a1))) 1
  · exact blk_drewN (blk_alloc (tw_new _ C _ a2)) 1
  · exact blk_drewN (tw_new _ D _ a3) 1
  · have c1 : Below w.heap.size w ((w.alloc A).drewN n1) := (b0.alloc (Nat.le_refl _) A).trans ((gdrewN _ n1).mono (by simp))
    exact (((c1.alloc (by omega) B).alloc (by omega) C).alloc (by omega) D).drew
theorem sta_chk (s : ByteArray) : chkE [((decide (blk1 s < s.size) && decide (minE (cut1 s) ≠ 3)), 3), ((decide ((sNum s).size = 3) && (decide (numE 10 (sNum s) 599 = 0) || decide (numE 10 (sNum s) 599 = 5))), 3), ((decide ((sRea s).size = 0) || decide (bt (sRea s) 0 = 32)), 3), (decide (minE (cut1 s) = 0), minE (cut1 s)), ((decide (numE 10 (sNum s) 599 = 0) && decide (100 ≤ numV 10 (sNum s) 599)), 12), (allB valueB (sRea s), 7)] = staE s := by
  have gen : ∀ (a b c d e f : Bool) (x : Int), chkE [(a, 3), (b, 3), (c, 3), (d, x), (e, 12), (f, 7)] = if (a && b && c) = false then 3 else if d = false then x else if e = false then 12 else if f = false then 7 else 0 := by
    intro a b c d e f x
    cases a <;> cases b <;> cases c <;> cases d <;> cases e <;> cases f <;> rfl
  refine (gen (sA s) (sB s) (sC s) _ _ _ _).trans ?_
  have hiff := staF_iff s
  cases hF : staF s
  · have : (sA s && sB s && sC s) = false := by
      cases h1 : sA s <;> cases h2 : sB s <;> cases h3 : sC s <;> first | rfl | skip
      exact absurd (hiff.2 ⟨h1, h2, h3⟩) (by rw [hF]; decide)
    rw [if_pos this]
    unfold staE
    rw [if_pos hF]
  · obtain ⟨h1, h2, h3⟩ := hiff.1 hF
    obtain ⟨h0, hb, hc, hn, hr, hf, -⟩ := sta_parts hF
    obtain ⟨-, -, hlo, hhi⟩ := sta_num hF
    have hre := (sta_reason hF).1
    rw [h1, h2, h3, hc, hre]
    unfold staE
    rw [hF]
    generalize minE (s.extract 0 8) = x
    generalize allB valueB (staX s) = y
    by_cases hx : x = 0
    · subst hx
      by_cases hv : staV s ≤ 599
      · obtain ⟨e1, e2⟩ := hlo hv
        rw [e1, e2]
        by_cases hv1 : 100 ≤ staV s
        · have n1 : ¬ (staV s < 100 ∨ 599 < staV s) := by omega
          have n2 : (100 : Int) ≤ (staV s : Int) := by omega
          simp [n1, n2]
        · have n1 : (staV s < 100 ∨ 599 < staV s) := by omega
          have n2 : ¬ (100 : Int) ≤ (staV s : Int) := by omega
          simp only [n1, n2]
          rfl
      · obtain ⟨e1, e2⟩ := hhi (by omega)
        have n1 : (staV s < 100 ∨ 599 < staV s) := by omega
        rw [e1, e2]
        simp only [n1]
        rfl
    · simp [hx]
set_option maxRecDepth 100000 in
set_option maxHeartbeats 1000000 in
theorem status_any (s : ByteArray) (w : World) (hs : s.size ≤ 1000000) : Calls Tryz.prog 27 #[.string s] w (StaPost s w) := by
  have hc1 : (cut1 s).size ≤ s.size := ext_sizeS _ _ _
  have hc2 : (cut2 s).size ≤ s.size := ext_sizeS _ _ _
  go_enter Tryz.func27, Tryz.ntmps27
  go_wp2_with fail
  refine (cutS_any s _ (by omega)).mono ?_
  rintro e w1 ⟨rfl, n1, rfl⟩
  go_upto_region 2 with fail
  go_cut [7, 8] (SMid s w)
  case first =>
    by_cases h3 : 3 ≤ (cut2 s).size
    · have HM := Kp.mk (sta_min h3)
      have q : (3 : Int) ≤ ((cut2 s).size : Int) := by omega
      go_region
      · go_wp2_with fail
        go_meet
        obtain ⟨k0, k1, k2, k3, hb⟩ := sta_tower w (.cells #[.string ⟨#[]⟩, .string ⟨#[]⟩, .int .i64 0, .int .i64 0, .string ⟨#[]⟩, .slice none 0 0] 29) (.cells #[.bool (decide (blk1 s < s.size))] 4) (.cells #[.string (sNum s)] 9) (.cells #[.string (sRea s)] 9) n1
        rw [HM.out.1, HM.out.2] at k0 k1 k2 k3 hb
        refine ⟨_, _, rfl, rfl, ?_, ?_, k0, k1, hb⟩
        · rw [HM.out.1]; exact k2
        · rw [HM.out.2]; exact k3
      · go_wp2_with fail
        go_meet
        obtain ⟨k0, k1, k2, k3, hb⟩ := sta_tower w (.cells #[.string ⟨#[]⟩, .string ⟨#[]⟩, .int .i64 0, .int .i64 0, .string ⟨#[]⟩, .slice none 0 0] 29) (.cells #[.bool (decide (blk1 s < s.size))] 4) (.cells #[.string (sRea s)] 9) (.cells #[.string (sNum s)] 9) n1
        rw [HM.out.1, HM.out.2] at k0 k1 k2 k3 hb
        refine ⟨_, _, rfl, rfl, ?_, ?_, k0, k1, hb⟩
        · rw [HM.out.1]; exact k3
        · rw [HM.out.2]; exact k2
    · have HM := Kp.mk (sta_min2 (show (cut2 s).size ≤ 3 by omega))
      have q : ¬ (3 : Int) ≤ ((cut2 s).size : Int) := by omega
      go_region
      · go_wp2_with fail
        go_meet
        obtain ⟨k0, k1, k2, k3, hb⟩ := sta_tower w (.cells #[.string ⟨#[]⟩, .string ⟨#[]⟩, .int .i64 0, .int .i64 0, .string ⟨#[]⟩, .slice none 0 0] 29) (.cells #[.bool (decide (blk1 s < s.size))] 4) (.cells #[.string (sNum s)] 9) (.cells #[.string (sRea s)] 9) n1
        rw [HM.out.1, HM.out.2] at k0 k1 k2 k3 hb
        refine ⟨_, _, rfl, rfl, ?_, ?_, k0, k1, hb⟩
        · rw [HM.out.1]; exact k2
        · rw [HM.out.2]; exact k3
      · go_wp2_with fail
        go_meet
        obtain ⟨k0, k1, k2, k3, hb⟩ := sta_tower w (.cells #[.string ⟨#[]⟩, .string ⟨#[]⟩, .int .i64 0, .int .i64 0, .string ⟨#[]⟩, .slice none 0 0] 29) (.cells #[.bool (decide (blk1 s < s.size))] 4) (.cells #[.string (sRea s)] 9) (.cells #[.string (sNum s)] 9) n1
        rw [HM.out.1, HM.out.2] at k0 k1 k2 k3 hb
        refine ⟨_, _, rfl, rfl, ?_, ?_, k0, k1, hb⟩
        · rw [HM.out.1]; exact k3
        · rw [HM.out.2]; exact k2
  case rest =>
    obtain ⟨b7, b8, rfl, rfl, k7, k8, k0, k6, hbx⟩ := hcut
    have K7 := Kp.mk k7
    have K8 := Kp.mk k8
    have K0 := Kp.mk k0
    have K6 := Kp.mk k6
    have HBX := Kp.mk hbx
    have hn3 : (sNum s).size ≤ s.size := Nat.le_trans (ext_sizeS _ _ _) hc2
    have hr3 : (sRea s).size ≤ s.size := Nat.le_trans (ext_sizeS _ _ _) hc2
    clear k7 k8 k0 k6 hbx
    go_wp2_with fail
    refine (minor_any (cut1 s) _ (by omega)).mono ?_
    rintro e w3 ⟨rfl, rfl⟩
    have KA := Kp.mk (heap_alloc_new w3 (.cells #[.int .i64 (minE (cut1 s))] 30))
    have KB := Kp.mk ((Below.refl w3.heap.size w3).alloc (Nat.le_refl _) (.cells #[.int .i64 (minE (cut1 s))] 30))
    have c7 := blk_cell (i := 0) (blk_alloc K7.out (o2 := .cells #[.int .i64 (minE (cut1 s))] 30)) rfl
    go_wp2_with fail
    refine (dec_any (sNum s) 599 _ (by unfold maxLen; omega) (by omega) (by omega)).mono ?_
    rintro e w4 ⟨rfl, hb4⟩
    have HB34 := Kp.mk (KB.out.trans (hb4.mono (by simp)))
    have L7 := Kp.mk ((HB34.out.block _ (blk_lt K7.out)).trans K7.out)
    have L8 := Kp.mk ((HB34.out.block _ (blk_lt K8.out)).trans K8.out)
    have L0 := Kp.mk ((HB34.out.block _ (blk_lt K0.out)).trans K0.out)
    have L6 := Kp.mk ((HB34.out.block _ (blk_lt K6.out)).trans K6.out)
    have LA := Kp.mk ((hb4.block w3.heap.size (by simp)).trans KA.out)
    have HB4 := Kp.mk (HBX.out.trans (HB34.out.mono HBX.out.size))
    have HZ4 := Kp.mk HB4.out.size
    have ca := blk_cell (i := 0) LA.out rfl
    have hlt4 := blk_lt LA.out
    clear hb4 c7 K7 K8 K0 K6 KA KB HBX HB34
    go_wp2_with fail
    have a1 : (w4.alloc (.cells #[.int .i64 (numV 10 (sNum s) 599)] 3)).heap.size = w4.heap.size + 1 := World.size_alloc _ _
    have a2 : ((w4.alloc (.cells #[.int .i64 (numV 10 (sNum s) 599)] 3)).alloc (.cells #[.int .i64 (numE 10 (sNum s) 599)] 30)).heap.size = w4.heap.size + 1 + 1 := by rw [World.size_alloc, a1]
    have up := fun (b : Nat) (o : Obj) (h : w4.heap[b]? = some o) (o1 o2 o3 : Obj) => blk_alloc (o2 := o3) (blk_alloc (o2 := o2) (blk_alloc (o2 := o1) h))
    have kC := tw_new ((w4.alloc (.cells #[.int .i64 (numV 10 (sNum s) 599)] 3)).alloc (.cells #[.int .i64 (numE 10 (sNum s) 599)] 30)) (.cells #[.func (.func 70) #[] #[.pointer (some ⟨(w.heap.size + 1), 0, none⟩), .pointer (some ⟨w3.heap.size, 0, none⟩)], .int .i64 3, .func (.func 71) #[] #[.pointer (some ⟨b7, 0, none⟩), .pointer (some ⟨(w4.heap.size + 1), 0, none⟩)], .int .i64 3, .func (.func 72) #[] #[.pointer (some ⟨b8, 0, none⟩)], .int .i64 3, .func (.func 73) #[] #[.pointer (some ⟨w3.heap.size, 0, none⟩)], .int .i64 (minE (cut1 s)), .func (.func 74) #[] #[.pointer (some ⟨(w4.heap.size + 1), 0, none⟩), .pointer (some ⟨w4.heap.size, 0, none⟩)], .int .i64 12, .func (.func 75) #[] #[.pointer (some ⟨b8, 0, none⟩)], .int .i64 7] 85) _ a2
    have k11 := blk_alloc (o2 := .cells #[.func (.func 70) #[] #[.pointer (some ⟨(w.heap.size + 1), 0, none⟩), .pointer (some ⟨w3.heap.size, 0, none⟩)], .int .i64 3, .func (.func 71) #[] #[.pointer (some ⟨b7, 0, none⟩), .pointer (some ⟨(w4.heap.size + 1), 0, none⟩)], .int .i64 3, .func (.func 72) #[] #[.pointer (some ⟨b8, 0, none⟩)], .int .i64 3, .func (.func 73) #[] #[.pointer (some ⟨w3.heap.size, 0, none⟩)], .int .i64 (minE (cut1 s)), .func (.func 74) #[] #[.pointer (some ⟨(w4.heap.size + 1), 0, none⟩), .pointer (some ⟨w4.heap.size, 0, none⟩)], .int .i64 12, .func (.func 75) #[] #[.pointer (some ⟨b8, 0, none⟩)], .int .i64 7] 85) (blk_alloc (o2 := .cells #[.int .i64 (numE 10 (sNum s) 599)] 30) (heap_alloc_new w4 (.cells #[.int .i64 (numV 10 (sNum s) 599)] 3)))
    have k12 := blk_alloc (o2 := .cells #[.func (.func 70) #[] #[.pointer (some ⟨(w.heap.size + 1), 0, none⟩), .pointer (some ⟨w3.heap.size, 0, none⟩)], .int .i64 3, .func (.func 71) #[] #[.pointer (some ⟨b7, 0, none⟩), .pointer (some ⟨(w4.heap.size + 1), 0, none⟩)], .int .i64 3, .func (.func 72) #[] #[.pointer (some ⟨b8, 0, none⟩)], .int .i64 3, .func (.func 73) #[] #[.pointer (some ⟨w3.heap.size, 0, none⟩)], .int .i64 (minE (cut1 s)), .func (.func 74) #[] #[.pointer (some ⟨(w4.heap.size + 1), 0, none⟩), .pointer (some ⟨w4.heap.size, 0, none⟩)], .int .i64 12, .func (.func 75) #[] #[.pointer (some ⟨b8, 0, none⟩)], .int .i64 7] 85) (tw_new (w4.alloc (.cells #[.int .i64 (numV 10 (sNum s) 599)] 3)) (.cells #[.int .i64 (numE 10 (sNum s) 599)] 30) _ a1)
    have j0 := up _ _ L0.out (.cells #[.int .i64 (numV 10 (sNum s) 599)] 3) (.cells #[.int .i64 (numE 10 (sNum s) 599)] 30) (.cells #[.func (.func 70) #[] #[.pointer (some ⟨(w.heap.size + 1), 0, none⟩), .pointer (some ⟨w3.heap.size, 0, none⟩)], .int .i64 3, .func (.func 71) #[] #[.pointer (some ⟨b7, 0, none⟩), .pointer (some ⟨(w4.heap.size + 1), 0, none⟩)], .int .i64 3, .func (.func 72) #[] #[.pointer (some ⟨b8, 0, none⟩)], .int .i64 3, .func (.func 73) #[] #[.pointer (some ⟨w3.heap.size, 0, none⟩)], .int .i64 (minE (cut1 s)), .func (.func 74) #[] #[.pointer (some ⟨(w4.heap.size + 1), 0, none⟩), .pointer (some ⟨w4.heap.size, 0, none⟩)], .int .i64 12, .func (.func 75) #[] #[.pointer (some ⟨b8, 0, none⟩)], .int .i64 7] 85)
    have j8 := up _ _ L8.out (.cells #[.int .i64 (numV 10 (sNum s) 599)] 3) (.cells #[.int .i64 (numE 10 (sNum s) 599)] 30) (.cells #[.func (.func 70) #[] #[.pointer (some ⟨(w.heap.size + 1), 0, none⟩), .pointer (some ⟨w3.heap.size, 0, none⟩)], .int .i64 3, .func (.func 71) #[] #[.pointer (some ⟨b7, 0, none⟩), .pointer (some ⟨(w4.heap.size + 1), 0, none⟩)], .int .i64 3, .func (.func 72) #[] #[.pointer (some ⟨b8, 0, none⟩)], .int .i64 3, .func (.func 73) #[] #[.pointer (some ⟨w3.heap.size, 0, none⟩)], .int .i64 (minE (cut1 s)), .func (.func 74) #[] #[.pointer (some ⟨(w4.heap.size + 1), 0, none⟩), .pointer (some ⟨w4.heap.size, 0, none⟩)], .int .i64 12, .func (.func 75) #[] #[.pointer (some ⟨b8, 0, none⟩)], .int .i64 7] 85)
    have HBC := Kp.mk (((HB4.out.alloc HZ4.out (.cells #[.int .i64 (numV 10 (sNum s) 599)] 3)).alloc (by rw [a1]; have := HZ4.out; omega) (.cells #[.int .i64 (numE 10 (sNum s) 599)] 30)).alloc (by rw [a2]; have := HZ4.out; omega) (.cells #[.func (.func 70) #[] #[.pointer (some ⟨(w.heap.size + 1), 0, none⟩), .pointer (some ⟨w3.heap.size, 0, none⟩)], .int .i64 3, .func (.func 71) #[] #[.pointer (some ⟨b7, 0, none⟩), .pointer (some ⟨(w4.heap.size + 1), 0, none⟩)], .int .i64 3, .func (.func 72) #[] #[.pointer (some ⟨b8, 0, none⟩)], .int .i64 3, .func (.func 73) #[] #[.pointer (some ⟨w3.heap.size, 0, none⟩)], .int .i64 (minE (cut1 s)), .func (.func 74) #[] #[.pointer (some ⟨(w4.heap.size + 1), 0, none⟩), .pointer (some ⟨w4.heap.size, 0, none⟩)], .int .i64 12, .func (.func 75) #[] #[.pointer (some ⟨b8, 0, none⟩)], .int .i64 7] 85))
    refine (sfirst_any (decide (blk1 s < s.size)) (minE (cut1 s)) (sNum s) (sRea s) (numE 10 (sNum s) 599) (numV 10 (sNum s) 599) _ _ _ _ _ _ _ _ kC (by omega) (blk_cell (i := 0) (up _ _ L6.out _ _ _) rfl) (blk_cell (i := 0) (up _ _ L7.out _ _ _) rfl) (blk_cell (i := 0) (up _ _ L8.out _ _ _) rfl) (blk_cell (i := 0) (up _ _ LA.out _ _ _) rfl) (blk_cell (i := 0) k11 rfl) (blk_cell (i := 0) k12 rfl)).mono ?_
    rintro e w5 ⟨rfl, hb5⟩
    have HD0 := Kp.mk ((hb5.block _ (blk_lt j0)).trans j0)
    have d8 := blk_cell (i := 0) ((hb5.block _ (blk_lt j8)).trans j8) rfl
    have d11 := blk_cell (i := 0) ((hb5.block _ (blk_lt k11)).trans k11) rfl
    have HB5 := Kp.mk (HBC.out.trans (hb5.mono HBC.out.size))
    have HW := Kp.mk (Nat.le_refl w.heap.size)
    have HCH := Kp.mk (sta_chk s)
    rw [HCH.out]
    clear a1 a2 up kC k11 k12 j0 j8 HBC hb5 L0 L6 L7 L8 LA ca hlt4 HCH HZ4 HB4
    have g0 := blk_cell (i := 0) HD0.out rfl
    have g1 := blk_cell (i := 1) HD0.out rfl
    have g2 := blk_cell (i := 2) HD0.out rfl
    have g3 := blk_cell (i := 3) HD0.out rfl
    have g4 := blk_cell (i := 4) HD0.out rfl
    have g5 := blk_cell (i := 5) HD0.out rfl
    have f0 := blk_free (i := 0) HD0.out
    have f1 := blk_free (i := 1) HD0.out
    have f2 := blk_free (i := 2) HD0.out
    have f3 := blk_free (i := 3) HD0.out
    have f4 := blk_free (i := 4) HD0.out
    have f5 := blk_free (i := 5) HD0.out
    by_cases h0 : staE s = 0
    · have hcs : staF s = true ∧ staN s = minN (cut1 s) ∧ staS s = numV 10 (sNum s) 599 ∧ staR s = staX s := by
        rcases sta_cases s with ⟨-, h, -⟩ | ⟨-, h1, h, -⟩ | ⟨-, -, -, h, -⟩ | ⟨-, -, -, -, -, h, -⟩ | ⟨h1, h2, h3, h4, h5, h6, h7, h8, h9⟩
        · rw [h0] at h; exact absurd h (by decide)
        · rw [h0] at h; exact absurd h.symm h1
        · rw [h0] at h; exact absurd h (by decide)
        · rw [h0] at h; exact absurd h (by decide)
        · obtain ⟨-, -, hc, -⟩ := sta_parts h1
          obtain ⟨-, -, hlo, -⟩ := sta_num h1
          exact ⟨h1, by rw [hc]; exact h7, by rw [(hlo h4).2]; exact h8, h9⟩
      obtain ⟨hF, hN, hS, hR⟩ := hcs
      have HX := Kp.mk (And.intro hN (And.intro hS hR))
      have HE := Kp.mk h0
      rw [h0]
      have hre := (sta_reason hF).2
      clear hF hN hS hR h0
      rcases hre with ⟨-, hx, hre⟩ | ⟨hp, hbk, hx⟩
      · have HXX := Kp.mk hx
        rw [hre] at d8
        clear hx hre
        go_wp2_with fail
        first
          | go_region_with (go_at_call 76; refine (trimS_emp _).mono ?_; rintro e w9 ⟨rfl, rfl⟩)
          | fail
        all_goals go_wp2_with fail
        all_goals (try go_simp)
        all_goals
          obtain ⟨hre, hrb⟩ := res6_end HD0.out HB5.out HW.out (.string ⟨#[]⟩) (.string ⟨#[]⟩) (.int .i64 (minN (cut1 s))) (.int .i64 (numV 10 (sNum s) 599)) (.string ⟨#[]⟩) (.slice none 0 0)
          have r0 := blk_cell (i := 0) hre rfl
          have r1 := blk_cell (i := 1) hre rfl
          have r2 := blk_cell (i := 2) hre rfl
          have r3 := blk_cell (i := 3) hre rfl
          have r4 := blk_cell (i := 4) hre rfl
          have r5 := blk_cell (i := 5) hre rfl
          exact bodyPost_ret (v := .tuple #[.agg #[.string ⟨#[]⟩, .string ⟨#[]⟩, .int .i64 (minN (cut1 s)), .int .i64 (numV 10 (sNum s) 599), .string ⟨#[]⟩, .slice none 0 0], .int .i64 0]) (by simp [results, Tryz.results27, go_sem, r0, r1, r2, r3, r4, r5]) rfl ⟨by rw [HE.out, HX.out.1, HX.out.2.1, HX.out.2.2, HXX.out], hrb.drew⟩
      · have HXX := Kp.mk hx
        have HP := Kp.mk hp
        have HBK := Kp.mk hbk
        clear hx hp hbk
        go_wp2_with fail
        first
          | go_region_with (go_at_call 76; refine (trimS_yes (sRea s) _ (by omega) HP.out HBK.out).mono ?_; rintro e w9 ⟨rfl, rfl⟩)
          | fail
        all_goals go_wp2_with fail
        all_goals (try go_simp)
        all_goals
          obtain ⟨hre, hrb⟩ := res6_end HD0.out HB5.out HW.out (.string ⟨#[]⟩) (.string ⟨#[]⟩) (.int .i64 (minN (cut1 s))) (.int .i64 (numV 10 (sNum s) 599)) (.string ((sRea s).extract 1 (sRea s).size)) (.slice none 0 0)
          have r0 := blk_cell (i := 0) hre rfl
          have r1 := blk_cell (i := 1) hre rfl
          have r2 := blk_cell (i := 2) hre rfl
          have r3 := blk_cell (i := 3) hre rfl
          have r4 := blk_cell (i := 4) hre rfl
          have r5 := blk_cell (i := 5) hre rfl
          exact bodyPost_ret (v := .tuple #[.agg #[.string ⟨#[]⟩, .string ⟨#[]⟩, .int .i64 (minN (cut1 s)), .int .i64 (numV 10 (sNum s) 599), .string ((sRea s).extract 1 (sRea s).size), .slice none 0 0], .int .i64 0]) (by simp [results, Tryz.results27, go_sem, r0, r1, r2, r3, r4, r5]) rfl ⟨by rw [HE.out, HX.out.1, HX.out.2.1, HX.out.2.2, HXX.out], hrb.drew⟩
    · obtain ⟨-, e1, e2, e3⟩ := sta_bad (s := s) rfl h0
      have HX := Kp.mk (And.intro e1 (And.intro e2 e3))
      have q : (staE s != 0) = true := by rw [bne_iff_ne]; exact h0
      generalize hE : staE s = E at *
      have HE := Kp.mk hE
      clear h0 e1 e2 e3 hE
      go_wp2_with fail
      obtain ⟨hre, hrb⟩ := res6_end HD0.out HB5.out HW.out (.string ⟨#[]⟩) (.string ⟨#[]⟩) (.int .i64 0) (.int .i64 0) (.string ⟨#[]⟩) (.slice none 0 0)
      have r0 := blk_cell (i := 0) hre rfl
      have r1 := blk_cell (i := 1) hre rfl
      have r2 := blk_cell (i := 2) hre rfl
      have r3 := blk_cell (i := 3) hre rfl
      have r4 := blk_cell (i := 4) hre rfl
      have r5 := blk_cell (i := 5) hre rfl
      exact bodyPost_ret (v := .tuple #[.agg #[.string ⟨#[]⟩, .string ⟨#[]⟩, .int .i64 0, .int .i64 0, .string ⟨#[]⟩, .slice none 0 0], .int .i64 E]) (by simp [results, Tryz.results27, go_sem, r0, r1, r2, r3, r4, r5]) rfl ⟨by rw [HX.out.1, HX.out.2.1, HX.out.2.2, HE.out], hrb⟩
end Go.Proofs.YtcbfhlnnfnpkdaaGreatDoor
