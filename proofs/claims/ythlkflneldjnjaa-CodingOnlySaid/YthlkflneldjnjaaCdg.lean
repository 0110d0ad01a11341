/- Codings (layer 19): lists with an element more, ahead or behind (plain functions alone). · Codings (layer 19): only the one word says chunks: the law CodingOnly. -/
import Derived.Test.YthlkflneldjnjaaCdc
import Derived.Test.YthlkflneldjnjaaLsj
import Derived.Test.YthlkflneldjnjaaCde
import Derived.Test.YthlkflneldjnjaaHdi
namespace Go.Proofs.Ythlkflneldjnjaa
open Go.RowKit
set_option linter.unusedVariables false
set_option linter.unusedSimpArgs false

/-- The parts of octets, from a state on, with what the part begun holds. -/
def sp : S3 → List UInt8 → List UInt8 → List (List UInt8) × S3
  | x, cur, [] => ([cur], x)
  | x, cur, c :: r => if in3 (st3 x c.toNat) = true ∨ c.toNat ≠ 44 then sp (st3 x c.toNat) (cur ++ [c]) r else (cur :: (sp (st3 x c.toNat) [] r).1, (sp (st3 x c.toNat) [] r).2)
theorem sp_ps (s : ByteArray) : ∀ (n i : Nat), i + n = s.size → ∀ {q p : Bool} {d fr : Nat} {out : List ByteArray}, psAt s i = ⟨q, p, d, fr, out⟩ → fr ≤ i →
    ((psAt s s.size).out ++ [s.extract (psAt s s.size).fr s.size]).map (·.data.toList) = out.map (·.data.toList) ++ (sp (q, p, d) (seg s fr i) (s.data.toList.drop i)).1 ∧
      ((psAt s s.size).q, (psAt s s.size).p, (psAt s s.size).d) = (sp (q, p, d) (seg s fr i) (s.data.toList.drop i)).2
  | 0, i, hi, q, p, d, fr, out, h, hfr => by
    have hs : i = s.size := by omega
    subst hs
    rw [List.drop_of_length_le (by rw [len_data]; exact Nat.le_refl _), h]
    simp [sp, seg]
  | n + 1, i, hi, q, p, d, fr, out, h, hfr => by
    have hl : i < s.data.toList.length := by rw [len_data]; omega
    have hb := bt_list s i (by omega)
    obtain ⟨c, hc, hseg⟩ := seg_snoc hfr (show i < s.size by omega)
    have hcc : c = s.data.toList[i] := UInt8.toNat_inj.1 (hc.trans hb.symm)
    rw [List.drop_eq_getElem_cons hl, sp, ← hcc, hc]
    have h2 := ps_go h
    by_cases hw : psIn (seeQ q p d (bt s i)) (seeD q p d (bt s i)) = true ∨ bt s i ≠ 44
    · rw [if_pos hw] at h2
      have ih := sp_ps s n (i + 1) (by omega) h2 (by omega)
      rw [if_pos (show in3 (st3 (q, p, d) (bt s i)) = true ∨ bt s i ≠ 44 from hw)]
      rw [hseg] at ih
      exact ih
    · rw [if_neg hw] at h2
      have ih := sp_ps s n (i + 1) (by omega) h2 (Nat.le_refl _)
      rw [if_neg (show ¬ (in3 (st3 (q, p, d) (bt s i)) = true ∨ bt s i ≠ 44) from hw)]
      have hs0 : seg s (i + 1) (i + 1) = [] := by rw [seg_eq]; simp
      rw [hs0] at ih
      refine ⟨?_, ih.2⟩
      rw [ih.1, List.map_append, List.append_assoc]
      rfl
def somP (P : List (List UInt8)) : List ByteArray := someL (P.map fun l => ⟨(trimL l).toArray⟩)
theorem spl_sp (s : ByteArray) : splB s = !in3 (sp op3 [] s.data.toList).2 ∧ splL s = if splB s = true then somP (sp op3 [] s.data.toList).1 else [] := by
  have h := sp_ps s s.size 0 (by omega) (show psAt s 0 = ⟨false, false, 0, 0, []⟩ from rfl) (Nat.le_refl _)
  have hs0 : seg s 0 0 = [] := by rw [seg_eq]; simp
  rw [hs0, List.drop_zero, List.map_nil, List.nil_append] at h
  have h1 : (sp op3 [] s.data.toList).2 = ((psAt s s.size).q, (psAt s s.size).p, (psAt s s.size).d) := h.2.symm
  refine ⟨by rw [h1]; rfl, ?_⟩
  unfold splL somP
  have h2 : (sp op3 [] s.data.toList).1 = ((psAt s s.size).out ++ [s.extract (psAt s s.size).fr s.size]).map (·.data.toList) := h.1.symm
  rw [h2, List.map_map]
  rfl
theorem sp_app : ∀ (a b : List UInt8) (x : S3) (cur : List UInt8), ∃ I l y, sp x cur a = (I ++ [l], y) ∧ sp x cur (a ++ b) = (I ++ (sp y l b).1, (sp y l b).2)
  | [], b, x, cur => ⟨[], cur, x, rfl, rfl⟩
  | c :: a, b, x, cur => by
    rw [List.cons_append, sp, sp]
    split
    · exact sp_app a b _ _
    · obtain ⟨I, l, y, h1, h2⟩ := sp_app a b (st3 x c.toNat) []
      exact ⟨cur :: I, l, y, by rw [h1]; rfl, by rw [h2]; rfl⟩
theorem sp_head : ∀ (b : List UInt8) (x : S3) (cur : List UInt8), ∃ t R, (sp x cur b).1 = (cur ++ t) :: R
  | [], x, cur => ⟨[], [], by rw [List.append_nil]; rfl⟩
  | c :: b, x, cur => by
    rw [sp]
    split
    · obtain ⟨t, R, h⟩ := sp_head b (st3 x c.toNat) (cur ++ [c])
      exact ⟨c :: t, R, by rw [h, List.append_assoc]; rfl⟩
    · exact ⟨[], _, by rw [List.append_nil]⟩
theorem sp_pre : ∀ (b a : List UInt8) (x : S3) (cur : List UInt8), ∃ p R y, sp x cur b = (p :: R, y) ∧ sp x (a ++ cur) b = ((a ++ p) :: R, y)
  | [], a, x, cur => ⟨cur, [], x, rfl, rfl⟩
  | c :: b, a, x, cur => by
    rw [sp, sp]
    split
    · obtain ⟨p, R, y, h1, h2⟩ := sp_pre b a (st3 x c.toNat) (cur ++ [c])
      refine ⟨p, R, y, h1, ?_⟩
      rw [List.append_assoc]
      exact h2
    · exact ⟨cur, _, _, rfl, rfl⟩
theorem sp_inv : ∀ (b : List UInt8) (x : S3) (cur : List UInt8), inv3 x → inv3 (sp x cur b).2
  | [], x, cur, h => h
  | c :: b, x, cur, h => by
    rw [sp]
    split
    · exact sp_inv b _ _ (st3_inv _ h)
    · exact sp_inv b _ _ (st3_inv _ h)
theorem trimL_x (t : List UInt8) : trimL (32 :: 120 :: t) ≠ [] := by
  intro h
  obtain ⟨p, q, e, hp, hq, _⟩ := trimL_part (32 :: 120 :: t)
  rw [h, List.append_nil] at e
  have hm : (120 : UInt8) ∈ p ++ q := by rw [← e]; simp
  have hb : blankC 120 = true := by
    rw [List.mem_append] at hm
    rcases hm with hm | hm
    · exact hp _ hm
    · exact hq _ hm
  revert hb
  decide
theorem somP_app (A B : List (List UInt8)) : somP (A ++ B) = somP A ++ somP B := by
  unfold somP someL
  rw [List.map_append, List.filter_append]
theorem somP_cons (l : List UInt8) (R : List (List UInt8)) (h : trimL l ≠ []) : somP (l :: R) = ⟨(trimL l).toArray⟩ :: somP R := by
  unfold somP someL
  rw [List.map_cons, List.filter_cons, if_pos]
  rw [decide_eq_true_eq]
  intro h0
  exact h (List.eq_nil_of_length_eq_zero ((len_data ⟨(trimL l).toArray⟩).trans h0))
/-- An element behind that begins with x. -/
theorem spl_behind {s v : ByteArray} {w : List UInt8} (h : s.data.toList = v.data.toList ++ (44 :: 32 :: 120 :: w)) (hv : splB v = true) : splB s = false ∨ ∃ B, B ≠ [] ∧ splL s = splL v ++ B := by
  obtain ⟨v1, v2⟩ := spl_sp v
  obtain ⟨s1, s2⟩ := spl_sp s
  rw [if_pos hv] at v2
  cases hs : splB s
  · exact .inl rfl
  · right
    rw [if_pos hs] at s2
    obtain ⟨I, l, y, h1, h2⟩ := sp_app v.data.toList (44 :: 32 :: 120 :: w) op3 []
    have hy : y = op3 := by
      refine inv3_open ?_ ?_
      · have := sp_inv v.data.toList op3 [] (fun e => by cases e)
        rw [h1] at this
        exact this
      · rw [h1, hv] at v1
        simpa using v1.symm
    subst hy
    have e1 : sp op3 l (44 :: 32 :: 120 :: w) = (l :: (sp op3 [32, 120] w).1, (sp op3 [32, 120] w).2) := rfl
    obtain ⟨t, R, h3⟩ := sp_head w op3 [32, 120]
    rw [h, h2, e1, h3] at s2
    rw [h1] at v2
    dsimp only at s2 v2
    refine ⟨somP (([32, 120] ++ t) :: R), ?_, ?_⟩
    · show somP ((32 :: 120 :: t) :: R) ≠ []
      rw [somP_cons _ _ (trimL_x t)]
      simp
    · rw [s2, v2, ← somP_app, List.append_assoc]
      rfl
def vGz : ByteArray := ⟨#[103, 122, 105, 112]⟩
theorem somP_blank (p : List UInt8) (R : List (List UInt8)) : somP ((32 :: p) :: R) = somP (p :: R) := by
  unfold somP
  rw [List.map_cons, List.map_cons, trimL_blank]
/-- An element ahead. -/
theorem spl_ahead {s v : ByteArray} (h : s.data.toList = 103 :: 122 :: 105 :: 112 :: 44 :: 32 :: v.data.toList) : splB s = splB v ∧ (splB v = true → splL s = vGz :: splL v) := by
  obtain ⟨v1, v2⟩ := spl_sp v
  obtain ⟨s1, s2⟩ := spl_sp s
  obtain ⟨p, R, y, h1, h2⟩ := sp_pre v.data.toList [32] op3 []
  have e1 : sp op3 [] (103 :: 122 :: 105 :: 112 :: 44 :: 32 :: v.data.toList) = ([103, 122, 105, 112] :: (sp op3 ([32] ++ []) v.data.toList).1, (sp op3 ([32] ++ []) v.data.toList).2) := rfl
  rw [h, e1, h2] at s1 s2
  rw [h1] at v1 v2
  have hb : splB s = splB v := by rw [s1, v1]
  refine ⟨hb, fun hv => ?_⟩
  rw [hb, if_pos hv] at s2
  rw [if_pos hv] at v2
  rw [s2, v2, somP_cons _ _ (by decide)]
  show _ :: somP ((32 :: p) :: R) = _
  rw [somP_blank]
  rfl
end Go.Proofs.Ythlkflneldjnjaa
namespace Go.Proofs.Ythlkflneldjnjaa
open Go.RowKit
set_option linter.unusedVariables false
set_option linter.unusedSimpArgs false

theorem chR_true {has ok : Bool} {L : List Cod} (h : chR has ok L = (true, 0)) : has = true ∧ ok = true ∧ L.length = 1 ∧ allC L = true := by
  unfold chR at h
  split at h
  · cases h
  · rename_i h1
    split at h
    · cases h
    · rename_i h2
      split at h
      · cases h
      · rename_i h3
        simp only [Bool.not_eq_false, Bool.and_eq_true, decide_eq_true_eq] at h1 h2
        exact ⟨h1, h2.1, by omega, h2.2.2⟩
theorem chR_ways (has ok : Bool) (L : List Cod) : chR has ok L = (true, 0) ∨ (chR has ok L).1 = false := by
  unfold chR
  split
  · exact .inr rfl
  · split
    · exact .inr rfl
    · split
      · exact .inr rfl
      · exact .inl rfl
theorem te_fil (y : ByteArray) : (List.filter (fun p : Fld => foldB p.1 nmTE) [(nmTE, y)]).map (·.2) = [y] := by
  have h : foldB nmTE nmTE = true := by decide +kernel
  rw [List.filter_cons, if_pos h]
  rfl
theorem hAll_behind (l : List Fld) (y : ByteArray) : hAll (l ++ [(nmTE, y)]) nmTE = hAll l nmTE ++ [y] := by
  unfold hAll
  rw [List.filter_append, List.map_append, te_fil]
theorem hAll_ahead (l : List Fld) (y : ByteArray) : hAll ((nmTE, y) :: l) nmTE = y :: hAll l nmTE := by
  have h := te_fil y
  unfold hAll
  rw [← List.singleton_append, List.filter_append, List.map_append, h]
  rfl
theorem hIs_ne {l : List Fld} {nm : ByteArray} (h : hAll l nm ≠ []) : hIs l nm = true := by
  unfold hIs
  refine decide_eq_true ?_
  rcases Nat.eq_zero_or_pos (hAll l nm).length with h0 | h0
  · exact absurd (List.eq_nil_of_length_eq_zero h0) h
  · exact h0
theorem hIs_out {l : List Fld} {nm : ByteArray} (h : hIs l nm = true) : hAll l nm ≠ [] := by
  intro e
  unfold hIs at h
  rw [e] at h
  cases h
theorem isCh_of {c : Cod} (h : allC [c] = true) : c.2.2 = true ∧ isCh c = true ∧ c.2.1 = true := by
  have g := allC_iff.1 h 0 (by simp)
  unfold goodC at g
  simpa using g
theorem gz_cod : isUn (codOf vGz) = false ∧ isCh (codOf vGz) = false := by decide +kernel
def xW (word : ByteArray) : ByteArray := ⟨#[120]⟩ ++ word
theorem only_behind {l : List Fld} (word : ByteArray) (h : chF l = (true, 0)) : chF (l ++ [(nmTE, xW word)]) = (false, 14) := by
  unfold chF at h
  obtain ⟨g1, g2, g3, g4⟩ := chR_true h
  have hA := hIs_out g1
  unfold chF
  rw [hIs_ne (by rw [hAll_behind]; simp)]
  have hd : (teV (l ++ [(nmTE, xW word)]) nmTE).data.toList = (teV l nmTE).data.toList ++ (44 :: 32 :: 120 :: word.data.toList) := by
    unfold teV
    rw [hAll_behind, hJoin_snoc _ _ hA, cat_app, cat_app, List.append_assoc]
    unfold xW
    rw [cat_app]
    rfl
  unfold teC at g3 g4 ⊢
  generalize teV (l ++ [(nmTE, xW word)]) nmTE = s at *
  generalize teV l nmTE = v at *
  rcases spl_behind hd g2 with hs | ⟨B, hB, hs⟩
  · exact chR_bad (.inl hs)
  · refine chR_bad (.inr (.inr ?_))
    obtain ⟨x0, hx0⟩ : ∃ x0, splL v = [x0] := by
      rw [cods_len] at g3
      exact List.length_eq_one_iff.1 g3
    obtain ⟨b, B', rfl⟩ := List.exists_cons_of_ne_nil hB
    rw [hx0] at g4 hs
    obtain ⟨_, q2, _⟩ := isCh_of (c := codOf x0) g4
    rw [hs]
    refine allC_hit (j := 0) (by simp [codsOf]) ?_
    show goodC (codsOf ([x0] ++ b :: B')).length 0 (codOf x0) = false
    unfold goodC
    rw [q2, decide_eq_false (by simp [codsOf])]
    simp
theorem only_ahead {l : List Fld} (h : chF l = (true, 0)) : chF ((nmTE, vGz) :: l) = (false, 15) := by
  unfold chF at h
  obtain ⟨g1, g2, g3, g4⟩ := chR_true h
  have hA := hIs_out g1
  unfold chF
  rw [hIs_ne (by rw [hAll_ahead]; simp)]
  have hd : (teV ((nmTE, vGz) :: l) nmTE).data.toList = 103 :: 122 :: 105 :: 112 :: 44 :: 32 :: (teV l nmTE).data.toList := by
    unfold teV
    rw [hAll_ahead]
    obtain ⟨y, r, hy⟩ := List.exists_cons_of_ne_nil hA
    rw [hy]
    unfold hJoin
    rw [List.map_cons, List.map_cons, Lib.join_cons, Lib.join_cons]
    simp [Lib.joinTail, vGz]
  unfold teC at g3 g4 ⊢
  generalize teV ((nmTE, vGz) :: l) nmTE = s at *
  generalize teV l nmTE = v at *
  obtain ⟨hb, hs⟩ := spl_ahead hd
  rw [hb, g2, hs g2]
  obtain ⟨x0, hx0⟩ : ∃ x0, splL v = [x0] := by
    rw [cods_len] at g3
    exact List.length_eq_one_iff.1 g3
  rw [hx0] at g4 ⊢
  obtain ⟨q1, q2, q3⟩ := isCh_of (c := codOf x0) g4
  obtain ⟨z1, z2⟩ := gz_cod
  refine chR_many (by simp [codsOf]) ?_
  show allC [codOf vGz, codOf x0] = true
  rw [allC_parts (n := 1) rfl]
  simp only [List.any_cons, List.any_nil, List.take, List.getElem_cons_succ, List.getElem_cons_zero]
  rw [z1, z2, q2, q3]
  unfold isUn
  rw [q1]
  rfl
theorem fewF_behind {l : List Fld} (h : hFew l = true) {word : ByteArray} (hw : word.size ≤ 100) : FewF (l ++ [(nmTE, xW word)]) := by
  refine ⟨by rw [List.length_append]; have := (hFew_out h).1; simp; omega, fun p hp => ?_⟩
  rw [List.mem_append, List.mem_singleton] at hp
  rcases hp with hp | rfl
  · have := hFew_vals h p hp
    omega
  · refine ⟨show nmTE.size ≤ 1000 by decide, ?_⟩
    show (⟨#[120]⟩ ++ word : ByteArray).size ≤ 1000
    rw [ByteArray.size_append]
    have : (⟨#[120]⟩ : ByteArray).size = 1 := rfl
    omega
theorem fewF_ahead {l : List Fld} (h : hFew l = true) : FewF ((nmTE, vGz) :: l) := by
  refine ⟨by rw [List.length_cons]; have := (hFew_out h).1; omega, fun p hp => ?_⟩
  rw [List.mem_cons] at hp
  rcases hp with rfl | hp
  · exact ⟨by decide, by decide⟩
  · have := hFew_vals h p hp
    omega
set_option maxRecDepth 100000 in
set_option maxHeartbeats 2000000 in
theorem cdon_walk (vl : Value) (l : List Fld) (word : ByteArray) (w : World) (h1 : RdF w vl l) (z1 : ∀ p ∈ l, FldOk p) (hx : word.size ≤ maxLen) :
    Calls Try.prog 7 #[vl, .string word] w fun e w' => e = .returned (.bool true) ∧ Below w.heap.size w w' := by
  have H1 := Kp.mk h1
  have f1 := few10_any vl l w h1 z1
  unfold maxLen at hx
  cases hfl : hFew l
  · rw [hfl] at f1
    clear h1 z1
    go_enter Try.func7, Try.ntmps7
    go_wp2_with fail
    refine f1.mono ?_
    rintro e w1 ⟨rfl, hb1⟩
    have HB1 := Kp.mk hb1
    clear hb1
    go_wp2_with fail
    refine (lives19_any _).mono ?_
    rintro e w9 ⟨rfl, hb9⟩
    have HB9 := Kp.mk (HB1.out.trans (hb9.mono HB1.out.size))
    clear hb9
    go_wp2_with fail
    go_ret
    exact ⟨rfl, HB9.out⟩
  · rw [hfl] at f1
    have HF := Kp.mk (fewF_of hfl)
    have hl5 := (fewF_of hfl).len
    clear z1 h1
    by_cases hq : word.size ≤ 100
    · have q1 : ¬ (100 : Int) < (word.size : Int) := by omega
      have HF2 := Kp.mk (fewF_behind hfl hq)
      have HF3 := Kp.mk (fewF_ahead hfl)
      go_enter Try.func7, Try.ntmps7
      go_wp2_with fail
      refine f1.mono ?_
      rintro e w1 ⟨rfl, hb1⟩
      have HB1 := Kp.mk hb1
      clear hb1 f1
      go_wp2_with fail
      refine (cchunk_any vl l _ (H1.out.below HB1.out) HF.out).mono ?_
      rcases chR_ways (hIs l nmTE) (splB (teV l nmTE)) (teC l nmTE) with hc | hc
      · have hc : chF l = (true, 0) := hc
        have HO2 := Kp.mk (only_behind word hc)
        have HO3 := Kp.mk (only_ahead hc)
        rw [hc]
        rintro e w2 ⟨rfl, hb2⟩
        have HB2 := Kp.mk (HB1.out.trans (hb2.mono HB1.out.size))
        clear hb2 hc
        have HXW := Kp.mk (show (⟨#[120]⟩ : ByteArray) ++ word = xW word from rfl)
        go_wp2_with fail
        refine (hwith_any vl l nmTE (xW word) _ (H1.out.below HB2.out) (by omega)).mono ?_
        generalize l ++ [(nmTE, xW word)] = l2 at *
        rintro e w3 ⟨u, rfl, ho, hb3⟩
        have HB3 := Kp.mk (HB2.out.trans (hb3.mono HB2.out.size))
        have RU := Kp.mk (rdf_own ho)
        obtain ⟨a, c, rfl⟩ := own_lenH ho
        clear ho hb3
        go_wp2_with fail
        refine (cchunk_any _ l2 _ RU.out HF2.out).mono ?_
        rw [HO2.out]
        rintro e w4 ⟨rfl, hb4⟩
        have HB4 := Kp.mk (HB3.out.trans (hb4.mono HB3.out.size))
        clear hb4 RU
        have HOA := Kp.mk (World.ownsRow_lit (base := w4.heap.size) (e := 42) (size := 2) w4 (fvH [(nmTE, vGz)]).toArray 1 (Nat.le_refl _) (by unfold maxLen; omega) rfl)
        have HBA := Kp.mk (show Below w4.heap.size w4 (w4.alloc (.cells (fvH [(nmTE, vGz)]).toArray 42)) from (Below.refl _ _).alloc (Nat.le_refl _) _)
        have HBX := Kp.mk (HB4.out.trans (HBA.out.mono HB4.out.size))
        have RV := Kp.mk (H1.out.below HBX.out)
        have hszA := HBA.out.size
        have HLN := Kp.mk (show 1 + l.length = ((nmTE, vGz) :: l).length by rw [List.length_cons]; omega)
        have HXS := Kp.mk (show (fvH [(nmTE, vGz)]).toArray.toList ++ fvH l = fvH ((nmTE, vGz) :: l) by simp [fvH])
        have hlen0 : (1 + l.length) * 32 ≤ 140737488355328 := by omega
        have hmx0 : 1 + l.length ≤ maxLen := by unfold maxLen; omega
        generalize ((nmTE, vGz) :: l) = l3 at *
        go_wp2_with (at_builtin; refine app_flds rfl _ _ _ _ rfl Try.underlying22 _ Try.infoFH rfl w4.heap.size _ 1 _ rfl HOA.out _ rfl l RV.out hlen0 hmx0 hszA ?_; intro v5 w5 h1 h2; rw [HLN.out, HXS.out] at h1; have HB5 := Kp.mk (HBA.out.grown h2 hszA fun k hk => (HOA.out.lt k hk).1); have R5 := Kp.mk (rdf_own h1); obtain ⟨a1, c1, rfl⟩ := own_lenH h1; clear h1 h2)
        refine (cchunk_any _ l3 _ R5.out HF3.out).mono ?_
        rw [HO3.out]
        rintro e w6 ⟨rfl, hb6⟩
        have HB6 := Kp.mk ((HB4.out.trans (HB5.out.mono HB4.out.size)))
        have HB7 := Kp.mk (HB6.out.trans (hb6.mono HB6.out.size))
        clear hb6
        go_wp2_with fail
        refine (lives19_any _).mono ?_
        rintro e w9 ⟨rfl, hb9⟩
        have HB9 := Kp.mk (HB7.out.trans (hb9.mono HB7.out.size))
        clear hb9
        go_wp2_with fail
        go_ret
        exact ⟨rfl, HB9.out⟩
      · have hc : (chF l).1 = false := hc
        rw [hc]
        generalize (chF l).2 = er at *
        rintro e w2 ⟨rfl, hb2⟩
        have HB2 := Kp.mk (HB1.out.trans (hb2.mono HB1.out.size))
        clear hb2 hc
        go_wp2_with fail
        refine (lives19_any _).mono ?_
        rintro e w9 ⟨rfl, hb9⟩
        have HB9 := Kp.mk (HB2.out.trans (hb9.mono HB2.out.size))
        clear hb9
        go_wp2_with fail
        go_ret
        exact ⟨rfl, HB9.out⟩
    · have q1 : (100 : Int) < (word.size : Int) := by omega
      go_enter Try.func7, Try.ntmps7
      go_wp2_with fail
      refine f1.mono ?_
      rintro e w1 ⟨rfl, hb1⟩
      have HB1 := Kp.mk hb1
      clear hb1
      go_wp2_with fail
      refine (lives19_any _).mono ?_
      rintro e w9 ⟨rfl, hb9⟩
      have HB9 := Kp.mk (HB1.out.trans (hb9.mono HB1.out.size))
      clear hb9
      go_wp2_with fail
      go_ret
      exact ⟨rfl, HB9.out⟩
theorem cdon_arg (v0 v1 : Value) (w : World) (h0 : Arg Try.prog w 22 v0) (h1 : Arg Try.prog w 9 v1) :
    Calls Try.prog 7 #[v0, v1] w fun e w' => e = .returned (.bool true) ∧ Below w.heap.size w w' := by
  obtain ⟨l, hv, hz⟩ := hlist_argD v0 w h0
  obtain ⟨x, rfl, hx⟩ := h1.str Try.underlying9
  exact cdon_walk v0 l x w hv hz hx
end Go.Proofs.Ythlkflneldjnjaa
