/- Octets that wait: Put, Peek, Take (layer 3). -/
import Derived.Test.YtpgnekejemockaaQub
import Derived.Deep.DeepCutAuto
import Derived.RegionTactic
import Derived.ChangeAlike
namespace Go.Proofs.Ytpgnekejemockaa
open Go.RowKit
set_option linter.unusedVariables false
set_option linter.unusedSimpArgs false

theorem Try.sizeU8 : (Try.prog.info? 5).map (·.size) = some 1 := by kernel_rfl
theorem QAt.fits {b g : Nat} {R : List UInt8} {a n : Nat} {w : World} (h : QAt b g R a n w) (h0 : 0 < R.length) : a < R.length := by rcases h.lt with h | ⟨_, h⟩ <;> omega
theorem grown_keeps {w w' : World} {g k : Nat} {o : Obj} (h : w.grownBy w' (some g)) (hk : w.heap[k]? = some o) (hne : k ≠ g) : w'.heap[k]? = some o := (h.block k (blk_lt hk) (fun e => hne (by cases e; rfl))).trans hk

set_option maxRecDepth 100000 in
set_option maxHeartbeats 2000000 in
theorem qput_some (b g : Nat) (R : List UInt8) (a n u f m1 : Nat) (s : ByteArray) (w : World) (h : QAt b g R a n w) (hs : s.size ≤ 1000000) (hu : u = min s.size (R.length - n)) (hz : 0 < u)
    (hf : f = (a + n) % R.length) (hm1 : m1 = min u (R.length - f)) :
    Calls Try.prog 115 #[.pointer (some ⟨b, 0, none⟩), .string s] w fun e w' => e = .returned (.int .i64 u) ∧ QTo b g (putR R f (s.data.toList.take u)) a (n + u) w w' := by
  have H := Kp.mk h
  have hle := h.le
  have hsm := h.small
  have hM : 0 < R.length := by omega
  have hal := h.fits hM
  have hfl : f < R.length := by rw [hf]; exact Nat.mod_lt _ hM
  have HF := Kp.mk hf
  have HM1 := Kp.mk hm1
  have hur : u ≤ R.length - n := by omega
  have hus : u ≤ s.size := by omega
  have hm1u : m1 ≤ u := by omega
  have hm1f : m1 ≤ R.length - f := by omega
  have hcl : (s.data.toList.take u).length = u := by rw [List.length_take, ← ba_size']; omega
  have hu2 : u = s.size ∨ (u = R.length - n ∧ R.length - n < s.size) := by omega
  clear h hf hm1
  go_enter Try.func115, Try.ntmps115
  go_upto_region 1 with fail
  go_cut [5] (fun v wx => v = .int .i64 u ∧ wx = w)
  case first =>
    go_wp2_with fail
    refine (qroom_any b g R a n _ H.out).mono ?_
    rintro e w1 ⟨rfl, rfl⟩
    rcases hu2 with h9 | ⟨h9, h8⟩
    · have h7 : ¬ (R.length - n < s.size) := by omega
      go_wp2_with fail
      go_meet
      exact ⟨by rw [h9], rfl⟩
    · go_wp2_with fail
      go_meet
      exact ⟨by rw [h9], rfl⟩
  case rest =>
    obtain ⟨rfl, rfl⟩ := hcut
    have t0 : ((u : Int) == 0) = false := i64nq (by omega)
    obtain ⟨c0, c1, c2, f1, f2⟩ := H.out.facts
    clear hu hu2
    go_wp2_with fail
    refine (qparts_any b g R a n n u f m1 (u - m1) _ H.out hM hle (by omega) hz HF.out HM1.out rfl).mono ?_
    rintro e w1 ⟨rfl, k1, rfl⟩
    have HG := Kp.mk H.out.row
    have HB := Kp.mk H.out.blk
    have hss : (s.extract 0 u).size = u := by rw [ba_size', Lib.extract_data, List.drop_zero, List.length_take, ← ba_size']; omega
    have HSS := Kp.mk hss
    clear hss
    have HL1 := Kp.mk (show (spl R f ((s.extract 0 u).data.toList.take m1)).length = R.length from spl_len (by rw [List.length_take]; omega))
    have hn1 : m1 = min (s.extract 0 u).size m1 := by rw [HSS.out]; omega
    have hs2 : (s.extract m1 u).size = u - m1 := by rw [ba_size', Lib.extract_data, List.length_take, List.length_drop, ← ba_size']; omega
    have hn2 : u - m1 = min (s.extract m1 u).size (u - m1) := by rw [hs2]; omega
    have HN1 := Kp.mk hn1
    have HN2 := Kp.mk hn2
    have HFT := Kp.mk (show 0 + (u - m1) ≤ (spl R f ((s.extract 0 u).data.toList.take m1)).length by rw [HL1.out]; omega)
    have hft1 : f + m1 ≤ R.length := by omega
    have HPR := Kp.mk (show spl (spl R f ((s.extract 0 u).data.toList.take m1)) 0 ((s.extract m1 u).data.toList.take (u - m1)) = putR R f (s.data.toList.take u) by
      unfold putR
      rw [hcl, ← HM1.out, Lib.extract_data, Lib.extract_data, List.drop_zero, Nat.sub_zero, List.take_take, List.take_take, Nat.min_self, Nat.min_eq_left hm1u, List.drop_take])
    have HPL := Kp.mk (putR_len (R := R) (c := s.data.toList.take u) hfl (by omega))
    have HAP := Kp.mk H.out.apart
    clear hn1 hs2 hn2 hcl
    go_wp2_with (first
      | (refine cpy_str rfl (.tmp 27) (.tmp 30) _ _ rfl 5 Try.underlying91 Try.sizeU8 g f m1 m1 rfl (s.extract 0 u) rfl R _ (blk_drewN HG.out k1) m1 HN1.out hft1 ?_; intro w2 h2 h3; have H2 := Kp.mk h2; have HG2 := Kp.mk h3; have HB2 := Kp.mk (grown_keeps h3 (blk_drewN HB.out k1) (fun e => HAP.out e.symm)); clear h2 h3)
      | (refine cpy_str rfl (.tmp 25) (.tmp 33) _ _ rfl 5 Try.underlying91 Try.sizeU8 g 0 (u - m1) (u - m1) rfl (s.extract m1 u) rfl _ _ H2.out (u - m1) HN2.out HFT.out ?_; intro w3 h2 h3; rw [HPR.out] at h2; have H3 := Kp.mk h2; have HG3 := Kp.mk h3; have HB3 := Kp.mk (grown_keeps h3 HB2.out (fun e => HAP.out e.symm)); have e2 := blk_cell (i := 2) HB3.out rfl; have k2 := blk_free (i := 2) HB3.out; clear h2 h3))
    go_ret
    refine ⟨rfl, H.out.onl HPL.out (by omega) hal ((blk_set HB3.out _).trans ?_) (blk_set_other H3.out HAP.out _), ?_⟩
    · rw [show Value.int .i64 ((n : Int) + (u : Int)) = .int .i64 ((n + u : Nat) : Int) from rfl]; rfl
    · exact ((((Onl.refl b (some g) _).drewN k1).grown HG2.out).grown HG3.out).setCell _ _
theorem own_of_row {w : World} {t : Nat} {X : List UInt8} {e : TypeId} (h : w.heap[t]? = some (.cells (bv X).toArray e (0, 0))) (hX : X.length ≤ maxLen) (B : Nat) (hB : B ≤ t) : w.ownsRow B e 1 (.slice (some ⟨t, 0, none⟩) X.length X.length) X.length (bv X) :=
  ⟨by rw [bv_length, Nat.mul_one], .inr ⟨t, X.length, _, rfl, hB, h, Nat.le_refl _, hX, by simp [bv_length], by rw [Nat.mul_one, List.take_of_length_le (by simp [bv_length])]⟩⟩
theorem spl_two {Z A C : List UInt8} (h : Z.length = A.length + C.length) : spl (spl Z 0 A) A.length C = A ++ C := by
  unfold spl
  simp
  omega
theorem qpeek_none (n : Int) (w : World) :
    Calls Try.prog 69 #[.pointer none, .int .i64 n] w fun e w' => e = .returned (.string ⟨#[]⟩) ∧ w = w' := by
  by_cases h : 0 < n
  · go_enter Try.func69, Try.ntmps69
    go_wp2_with fail
    refine (qlen_none _).mono ?_
    rintro e w1 ⟨rfl, rfl⟩
    go_wp2_with fail
    go_ret
    exact ⟨rfl, rfl⟩
  · have h2 : n < 1 := by omega
    go_enter Try.func69, Try.ntmps69
    go_wp2_with fail
    refine (qlen_none _).mono ?_
    rintro e w1 ⟨rfl, rfl⟩
    go_wp2_with fail
    go_ret
    exact ⟨rfl, rfl⟩
theorem qpeek_zero (b g : Nat) (R : List UInt8) (a n : Nat) (m : Int) (w : World) (h : QAt b g R a n w) (hm : m < 1 ∨ n = 0) :
    Calls Try.prog 69 #[.pointer (some ⟨b, 0, none⟩), .int .i64 m] w fun e w' => e = .returned (.string ⟨#[]⟩) ∧ w = w' := by
  have H := Kp.mk h
  have hle := h.le
  have hsm := h.small
  clear h
  by_cases h1 : (n : Int) < m
  · obtain rfl : n = 0 := by omega
    go_enter Try.func69, Try.ntmps69
    go_wp2_with fail
    refine (qlen_any b g R a 0 _ H.out).mono ?_
    rintro e w1 ⟨rfl, rfl⟩
    go_wp2_with fail
    go_ret
    exact ⟨rfl, rfl⟩
  · have h2 : m < 1 := by omega
    go_enter Try.func69, Try.ntmps69
    go_wp2_with fail
    refine (qlen_any b g R a n _ H.out).mono ?_
    rintro e w1 ⟨rfl, rfl⟩
    go_wp2_with fail
    go_ret
    exact ⟨rfl, rfl⟩
set_option maxRecDepth 100000 in
set_option maxHeartbeats 2000000 in
theorem qpeek_some (b g : Nat) (R : List UInt8) (a n u m1 : Nat) (m : Int) (w : World) (h : QAt b g R a n w) (hu : (u : Int) = min m (n : Int)) (hz : 0 < u) (hm1 : m1 = min u (R.length - a)) :
    Calls Try.prog 69 #[.pointer (some ⟨b, 0, none⟩), .int .i64 m] w fun e w' => e = .returned (.string ⟨(win R a u).toArray⟩) ∧ Below w.heap.size w w' := by
  have H := Kp.mk h
  have hle := h.le
  have hsm := h.small
  have hun : u ≤ n := by omega
  have hM : 0 < R.length := by omega
  have hal := h.fits hM
  have HM1 := Kp.mk hm1
  have hm1u : m1 ≤ u := by omega
  have hm1f : m1 ≤ R.length - a := by omega
  have hu2 : (u : Int) = m ∧ ¬ ((n : Int) < m) ∨ (u = n ∧ (n : Int) < m) := by omega
  have HW := Kp.mk (win_parts (R := R) (a := a) (n := u) hal (by omega))
  have HF := Kp.mk (show a = (a + 0) % R.length by rw [Nat.add_zero, Nat.mod_eq_of_lt hal])
  clear h hm1 hu
  go_enter Try.func69, Try.ntmps69
  go_upto_region 1 with fail
  go_cut [1] (fun v wx => v = .int .i64 u ∧ wx = w)
  case first =>
    go_wp2_with fail
    refine (qlen_any b g R a n _ H.out).mono ?_
    rintro e w1 ⟨rfl, rfl⟩
    rcases hu2 with ⟨h9, h8⟩ | ⟨h9, h8⟩
    · go_wp2_with fail
      go_meet
      exact ⟨by rw [h9], rfl⟩
    · go_wp2_with fail
      go_meet
      exact ⟨by rw [h9], rfl⟩
  case rest =>
    obtain ⟨rfl, rfl⟩ := hcut
    clear hu2
    go_wp2_with fail
    refine (qparts_any b g R a n 0 u a m1 (u - m1) _ H.out hM (by omega) (by omega) hz HF.out HM1.out rfl).mono ?_
    rintro e w1 ⟨rfl, k1, rfl⟩
    have hmk := make_u8 (P := Try.prog) (wc.drewN k1) 91 5 Try.underlying91 Try.infoQ u (by omega)
    have HT := Kp.mk (show ((wc.drewN k1).alloc (.cells (bv (List.replicate u 0)).toArray 5)).heap[(wc.drewN k1).heap.size]? = some (.cells (bv (List.replicate u 0)).toArray 5 (0, 0)) from heap_alloc_new _ _)
    have HG := Kp.mk (show ((wc.drewN k1).alloc (.cells (bv (List.replicate u 0)).toArray 5)).heap[g]? = some (.cells (bv R).toArray 5 (0, 0)) from blk_alloc (blk_drewN H.out.row k1))
    have hgl : g < (wc.drewN k1).heap.size := blk_lt (blk_drewN H.out.row k1)
    have HB0 := Kp.mk (show Below wc.heap.size wc ((wc.drewN k1).alloc (.cells (bv (List.replicate u 0)).toArray 5)) from (gdrewN wc k1).alloc (Nat.le_refl _) _)
    have HTS := Kp.mk (show wc.heap.size ≤ (wc.drewN k1).heap.size from Nat.le_refl _)
    have hlz : (List.replicate u (0 : UInt8)).length = u := by simp
    generalize hZ : List.replicate u (0 : UInt8) = Z at *
    have HZ := Kp.mk hlz
    clear hZ hlz
    generalize hrow : (bv Z).toArray = row at *
    have HRW := Kp.mk hrow
    clear hrow
    have hla : ((R.drop a).take m1).length = m1 := by rw [List.length_take, List.length_drop]; omega
    have hlc : (R.take (u - m1)).length = u - m1 := by rw [List.length_take]; omega
    have HX := Kp.mk (show spl (spl Z 0 ((R.drop a).take m1)) m1 ((R.drop 0).take (u - m1)) = win R a u by
      have h1 := spl_two (Z := Z) (A := (R.drop a).take m1) (C := R.take (u - m1)) (by rw [HZ.out, hla, hlc]; omega)
      rw [hla] at h1
      rw [List.drop_zero, h1]
      have h2 := HW.out
      rw [← HM1.out] at h2
      exact h2)
    have HL1 := Kp.mk (show (spl Z 0 ((R.drop a).take m1)).length = u by rw [spl_len (by rw [hla, HZ.out]; omega), HZ.out])
    have hn1 : m1 = min m1 u := by omega
    have HN1 := Kp.mk hn1
    have HN2 := Kp.mk (show u - m1 = min (u - m1) (u - m1) by omega)
    have HF1 := Kp.mk (show 0 + m1 ≤ Z.length by rw [HZ.out]; omega)
    have HF2 := Kp.mk (show m1 + (u - m1) ≤ (spl Z 0 ((R.drop a).take m1)).length by rw [HL1.out]; omega)
    have ham : a + m1 ≤ R.length := by omega
    have h0m : 0 + (u - m1) ≤ R.length := by omega
    clear hla hlc hn1
    have HGT := Kp.mk (show g ≠ (wc.drewN k1).heap.size by omega)
    generalize hT : (wc.drewN k1).heap.size = T at *
    have HTT := Kp.mk hT
    clear hT
    have HWL := Kp.mk (win_len R a u)
    have hul : u ≤ maxLen := by unfold maxLen; omega
    have HCV := Kp.mk (show ∀ w3 : World, w3.heap[T]? = some (.cells (bv (win R a u)).toArray 5 (0, 0)) → (convert 91 9 (.slice (some ⟨T, 0, none⟩) u u)).run Try.prog w3 = .ok (.string ⟨(win R a u).toArray⟩) w3 from fun w3 h1 => by
      have h2 := own_of_row h1 (by rw [HWL.out]; exact hul) 0 (Nat.zero_le _)
      have h3 := own_string (src := 91) (dst := 9) Try.underlying91 Try.underlying5 Try.underlying9 h2
      rwa [HWL.out] at h3)
    by_cases hmu : m1 = u
    · obtain rfl := hmu
      have HX2 := Kp.mk (show spl (spl Z 0 ((R.drop a).take m1)) m1 ((R.drop 0).take 0) = win R a m1 by have := HX.out; rwa [Nat.sub_self] at this)
      go_wp2_with (first
        | (refine cpy_row rfl (.tmp 23) (.tmp 24) _ _ rfl 5 Try.underlying91 Try.sizeU8 (some ⟨T, 0, none⟩) T 0 m1 m1 rfl (some ⟨g, a, none⟩) g a m1 m1 rfl Z _ (by rw [HRW.out]; exact HT.out) R _ HG.out m1 HN1.out (fun _ => ⟨rfl, rfl⟩) HF1.out ham ?_; intro w2 h2 h3; have H2 := Kp.mk h2; have HG2 := Kp.mk h3; have HR2 := Kp.mk (grown_keeps h3 HG.out HGT.out); clear h2 h3)
        | (refine cpy_row rfl (.tmp 26) (.tmp 27) _ _ rfl 5 Try.underlying91 Try.sizeU8 _ T m1 0 _ rfl _ g 0 _ _ rfl _ _ H2.out R _ HR2.out 0 rfl (fun h => absurd h (Nat.lt_irrefl _)) (by have := HF2.out; omega) (by omega) ?_; intro w3 h2 h3; rw [HX2.out] at h2; have hcv := HCV.out w3 h2; have HG3 := Kp.mk h3; clear h2 h3))
      go_ret
      refine ⟨rfl, ?_⟩
      exact (HB0.out.grown HG2.out HB0.out.size (fun k e => by cases e; exact HTS.out)).grown HG3.out (Nat.le_trans HB0.out.size HG2.out.size) (fun k e => by cases e; exact HTS.out)
    · have hlt : m1 < u := by omega
      go_wp2_with (first
        | (refine cpy_row rfl (.tmp 23) (.tmp 24) _ _ rfl 5 Try.underlying91 Try.sizeU8 (some ⟨T, 0, none⟩) T 0 u u rfl (some ⟨g, a, none⟩) g a m1 m1 rfl Z _ (by rw [HRW.out]; exact HT.out) R _ HG.out m1 HN1.out (fun _ => ⟨rfl, rfl⟩) HF1.out ham ?_; intro w2 h2 h3; have H2 := Kp.mk h2; have HG2 := Kp.mk h3; have HR2 := Kp.mk (grown_keeps h3 HG.out HGT.out); clear h2 h3)
        | (refine cpy_row rfl (.tmp 26) (.tmp 27) _ _ rfl 5 Try.underlying91 Try.sizeU8 _ T m1 (u - m1) _ rfl _ g 0 (u - m1) _ rfl _ _ H2.out R _ HR2.out (u - m1) HN2.out (by intro _; constructor <;> first | rfl | (simp; omega)) HF2.out h0m ?_; intro w3 h2 h3; rw [HX.out] at h2; have hcv := HCV.out w3 h2; have HG3 := Kp.mk h3; clear h2 h3))
      go_ret
      refine ⟨rfl, ?_⟩
      exact (HB0.out.grown HG2.out HB0.out.size (fun k e => by cases e; exact HTS.out)).grown HG3.out (Nat.le_trans HB0.out.size HG2.out.size) (fun k e => by cases e; exact HTS.out)
theorem ba_mk_emp {l : List UInt8} : (⟨l.toArray⟩ : ByteArray).toList = l := by rw [ByteArray.toList_eq]
theorem qtake_none (n : Int) (w : World) :
    Calls Try.prog 95 #[.pointer none, .int .i64 n] w fun e w' => e = .returned (.string ⟨#[]⟩) ∧ w = w' := by
  go_enter Try.func95, Try.ntmps95
  go_wp2_with fail
  refine (qpeek_none _ _).mono ?_
  rintro e w1 ⟨rfl, rfl⟩
  go_wp2_with fail
  go_ret
  exact ⟨rfl, rfl⟩
theorem qtake_zero (b g : Nat) (R : List UInt8) (a n : Nat) (m : Int) (w : World) (h : QAt b g R a n w) (hm : m < 1 ∨ n = 0) :
    Calls Try.prog 95 #[.pointer (some ⟨b, 0, none⟩), .int .i64 m] w fun e w' => e = .returned (.string ⟨#[]⟩) ∧ w = w' := by
  have H := Kp.mk h
  have HM := Kp.mk hm
  clear h hm
  go_enter Try.func95, Try.ntmps95
  go_wp2_with fail
  refine (qpeek_zero b g R a n m _ H.out HM.out).mono ?_
  rintro e w1 ⟨rfl, rfl⟩
  go_wp2_with fail
  go_ret
  exact ⟨rfl, rfl⟩
set_option maxRecDepth 100000 in
set_option maxHeartbeats 2000000 in
theorem qtake_some (b g : Nat) (R : List UInt8) (a n u : Nat) (m : Int) (w : World) (h : QAt b g R a n w) (hu : (u : Int) = min m (n : Int)) (hz : 0 < u) :
    Calls Try.prog 95 #[.pointer (some ⟨b, 0, none⟩), .int .i64 m] w fun e w' => e = .returned (.string ⟨(win R a u).toArray⟩) ∧ QTo b g R ((a + u) % R.length) (n - u) w w' := by
  have H := Kp.mk h
  have HU := Kp.mk hu
  have hle := h.le
  have hsm := h.small
  have hun : u ≤ n := by omega
  have hM : 0 < R.length := by omega
  have hal := h.fits hM
  have hsz : (⟨(win R a u).toArray⟩ : ByteArray).size = u := by rw [ba_size']; simp [win_len]
  have hne : (⟨(win R a u).toArray⟩ : ByteArray).toList.isEmpty = false ∧ ¬ ((⟨(win R a u).toArray⟩ : ByteArray).toList = []) := by
    rw [ba_mk_emp]
    have hl := win_len R a u
    cases hw : win R a u with
    | nil => rw [hw] at hl; simp at hl; omega
    | cons x y => simp
  have HMOD := Kp.mk (show ((a : Int) + (u : Int)) % (R.length : Int) = (((a + u) % R.length : Nat) : Int) by rw [← Int.natCast_add]; exact (Int.natCast_emod _ _).symm)
  have hfl : (a + u) % R.length < R.length := Nat.mod_lt _ hM
  have e2 : ((R.length : Int) == 0) = false := i64nq (by omega)
  obtain ⟨hn1, hn2⟩ := hne
  clear h hu
  go_enter Try.func95, Try.ntmps95
  go_wp2_with fail
  refine (qpeek_some b g R a n u (min u (R.length - a)) m _ H.out HU.out hz rfl).mono ?_
  rintro e w1 ⟨rfl, hb1⟩
  have H1 := Kp.mk (H.out.below hb1)
  have HB1 := Kp.mk hb1
  obtain ⟨c0, c1, c2, f1, f2⟩ := H1.out.facts
  generalize hx : (⟨(win R a u).toArray⟩ : ByteArray) = x at *
  have HX := Kp.mk hx
  clear hb1 hx
  go_wp2_with fail
  go_region
  rw [HMOD.out]
  go_wp2_with fail
  go_ret
  refine ⟨by rw [HX.out]; rfl, H1.out.onl rfl (by omega) hfl ?_ ?_, ?_⟩
  · refine ((blk_set (blk_set H1.out.blk _) _)).trans ?_
    rw [HMOD.out, show ((n : Int) - (u : Int)) = ((n - u : Nat) : Int) by omega]
    rfl
  · exact blk_set_other (blk_set_other H1.out.row H1.out.apart _) H1.out.apart _
  · exact (((Onl.of HB1.out).setCell _ _).setCell _ _).drewN 1
end Go.Proofs.Ytpgnekejemockaa
