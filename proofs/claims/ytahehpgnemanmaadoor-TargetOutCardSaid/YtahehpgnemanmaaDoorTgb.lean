/- Targets (layer 12): what a target is that can be read, and what comes back; plain facts. -/
import Derived.Test.YtahehpgnemanmaaDoorTga
namespace Go.Proofs.YtahehpgnemanmaaDoor
open Go.RowKit
set_option linter.unusedVariables false
set_option linter.unusedSimpArgs false

theorem tgBad_no {s : ByteArray} : tgBad s = false ↔ 0 < s.size ∧ ∀ b ∈ s.data.toList, visB b.toNat = true ∧ b.toNat ≠ 35 := by
  unfold tgBad visibleB allB
  rw [ba_size]
  constructor
  · intro h
    obtain ⟨h1, h2⟩ := Bool.or_eq_false_iff.1 h
    have h3 : (!s.data.toList.isEmpty && s.data.toList.all fun c => visB c.toNat) = true := by simpa using h1
    rw [Bool.and_eq_true] at h3
    refine ⟨?_, fun b hb => ⟨List.all_eq_true.1 h3.2 b hb, fun e => ?_⟩⟩
    · cases hl : s.data.toList with
      | nil => rw [hl] at h3; simp at h3
      | cons a l => simp
    · have : (s.data.toList.any fun c => c.toNat == 35) = true := List.any_eq_true.2 ⟨b, hb, by rw [e]; rfl⟩
      rw [this] at h2; cases h2
  · rintro ⟨h1, h2⟩
    rw [Bool.or_eq_false_iff]
    constructor
    · have h4 : s.data.toList.isEmpty = false := by
        cases hl : s.data.toList with
        | nil => rw [hl] at h1; simp at h1
        | cons a l => rfl
      have h5 : (s.data.toList.all fun c => visB c.toNat) = true := List.all_eq_true.2 fun b hb => (h2 b hb).1
      rw [h4, h5]; rfl
    · cases he : (s.data.toList.any fun c => c.toNat == 35)
      · rfl
      · obtain ⟨b, hb, e⟩ := List.any_eq_true.1 he
        exact absurd (by simpa using e) (h2 b hb).2
theorem tg_one {m s : ByteArray} (h : tgBad s = false) (hm : m ≠ tgCon) (h47 : bt s 0 = 47) : tgR m s = ⟨0, 1, ⟨#[]⟩, s⟩ := by
  have := (tgBad_no.1 h).1
  unfold tgR
  rw [if_neg (by omega), if_neg (by rw [h]; simp), if_neg hm, if_pos h47]
theorem tg_star : tgR tgOpt ⟨#[42]⟩ = ⟨0, 4, ⟨#[]⟩, ⟨#[]⟩⟩ := by
  unfold tgR
  rw [if_neg (by decide), if_neg (by decide +kernel), if_neg (by decide), if_neg (by decide +kernel), if_pos ⟨rfl, rfl⟩]
theorem tg_abs {m s : ByteArray} (h : tgBad s = false) (hm : m ≠ tgCon) (h47 : bt s 0 ≠ 47) (h42 : ¬ (s = ⟨#[42]⟩ ∧ m = tgOpt)) (hk : tgOkA s = true) : tgR m s = ⟨0, 2, tgAu s, tgPa s⟩ := by
  have := (tgBad_no.1 h).1
  unfold tgR
  rw [if_neg (by omega), if_neg (by rw [h]; simp), if_neg hm, if_neg h47, if_neg h42, if_pos hk]
theorem tg_con {s : ByteArray} (h : tgBad s = false) (hk : hsE s = 0 ∧ hsHas s = true) : tgR tgCon s = ⟨0, 3, s, ⟨#[]⟩⟩ := by
  have := (tgBad_no.1 h).1
  unfold tgR
  rw [if_neg (by omega), if_neg (by rw [h]; simp), if_pos rfl, if_pos hk]
theorem tg_cases {m s : ByteArray} (h : (tgR m s).e = 0) : tgBad s = false ∧ ((m = tgCon ∧ (hsE s = 0 ∧ hsHas s = true) ∧ tgR m s = ⟨0, 3, s, ⟨#[]⟩⟩) ∨ (m ≠ tgCon ∧ bt s 0 = 47 ∧ tgR m s = ⟨0, 1, ⟨#[]⟩, s⟩) ∨
    (m = tgOpt ∧ s = ⟨#[42]⟩ ∧ tgR m s = ⟨0, 4, ⟨#[]⟩, ⟨#[]⟩⟩) ∨ (m ≠ tgCon ∧ bt s 0 ≠ 47 ∧ tgOkA s = true ∧ tgR m s = ⟨0, 2, tgAu s, tgPa s⟩)) := by
  by_cases h0 : s.size = 0
  · rw [show tgR m s = tgNo 2 by unfold tgR; rw [if_pos h0]] at h; cases h
  cases hb : tgBad s
  · refine ⟨rfl, ?_⟩
    by_cases hm : m = tgCon
    · subst hm
      by_cases hk : hsE s = 0 ∧ hsHas s = true
      · exact .inl ⟨rfl, hk, tg_con hb hk⟩
      · rw [show tgR tgCon s = tgNo 11 by unfold tgR; rw [if_neg h0, if_neg (by rw [hb]; simp), if_pos rfl, if_neg hk]] at h; cases h
    · by_cases h47 : bt s 0 = 47
      · exact .inr (.inl ⟨hm, h47, tg_one hb hm h47⟩)
      · by_cases h42 : s = ⟨#[42]⟩ ∧ m = tgOpt
        · obtain ⟨rfl, rfl⟩ := h42
          exact .inr (.inr (.inl ⟨rfl, rfl, tg_star⟩))
        · cases hk : tgOkA s
          · rw [show tgR m s = tgNo 11 by unfold tgR; rw [if_neg h0, if_neg (by rw [hb]; simp), if_neg hm, if_neg h47, if_neg h42, if_neg (by rw [hk]; simp)]] at h; cases h
          · exact .inr (.inr (.inr ⟨hm, h47, rfl, tg_abs hb hm h47 h42 hk⟩))
  · rw [show tgR m s = tgNo 11 by unfold tgR; rw [if_neg h0, if_pos hb]] at h; cases h
/-- What is behind the scheme. -/
theorem tgAu_list (s : ByteArray) : (tgAu s).data.toList = (s.data.toList.drop 7).take (tgN (s.data.toList.drop 7)) := by
  unfold tgAu tgCut
  rw [Lib.extract_data]
  congr 1
  omega
theorem tgPa_list (s : ByteArray) : (tgPa s).data.toList = (s.data.toList.drop 7).drop (tgN (s.data.toList.drop 7)) := by
  unfold tgPa tgCut
  rw [Lib.extract_to_end, List.drop_drop]
theorem tgAuPa (s : ByteArray) : (tgAu s).data.toList ++ (tgPa s).data.toList = s.data.toList.drop 7 := by
  rw [tgAu_list, tgPa_list, List.take_append_drop]
theorem tgSch_len : tgSch.data.toList.length = 7 := rfl
theorem tg_abs_iff {s : ByteArray} : tgAbs s = true ↔ 7 ≤ s.size ∧ foldB (s.extract 0 7) tgSch = true := by
  unfold tgAbs
  rw [Bool.and_eq_true, decide_eq_true_eq]
/-- The text of an absolute target. -/
theorem tg_txt_list (s : ByteArray) : (tgSch ++ tgAu s ++ tgPa s).data.toList = tgSch.data.toList ++ s.data.toList.drop 7 := by
  rw [cat_app, cat_app, List.append_assoc, tgAuPa]
theorem tg_txt_drop (s : ByteArray) : (tgSch ++ tgAu s ++ tgPa s).data.toList.drop 7 = s.data.toList.drop 7 := by
  rw [tg_txt_list, List.drop_append, tgSch_len]; simp [tgSch]
theorem tg_au_of {s t : ByteArray} (h : t.data.toList.drop 7 = s.data.toList.drop 7) : tgAu t = tgAu s ∧ tgPa t = tgPa s :=
  ⟨ba_ext (by rw [tgAu_list, tgAu_list, h]), ba_ext (by rw [tgPa_list, tgPa_list, h])⟩
theorem tg_back {m s : ByteArray} (h : (tgR m s).e = 0) : tgR m (tgTx (tgR m s).fm (tgR m s).au (tgR m s).pa) = tgR m s := by
  obtain ⟨hb, ⟨rfl, hk, e⟩ | ⟨hm, h47, e⟩ | ⟨rfl, rfl, e⟩ | ⟨hm, h47, hk, e⟩⟩ := tg_cases h
  · rw [e]; exact e
  · rw [e]; exact e
  · rw [e]; exact e
  · rw [e]
    show tgR m (tgSch ++ tgAu s ++ tgPa s) = _
    have hd := tg_txt_drop s
    obtain ⟨e1, e2⟩ := tg_au_of hd
    have hl := tg_txt_list s
    generalize hT : tgSch ++ tgAu s ++ tgPa s = T at *
    unfold tgOkA at hk
    rw [Bool.and_eq_true] at hk
    obtain ⟨k1, k2⟩ := hk
    obtain ⟨k3, k4⟩ := tg_abs_iff.1 k1
    have hTs : 7 ≤ T.size := by rw [ba_size, hl, List.length_append, tgSch_len]; omega
    have hgood := tgBad_no.1 hb
    have hbT : tgBad T = false := tgBad_no.2 ⟨by omega, fun b hm => by
      rw [hl] at hm
      rcases List.mem_append.1 hm with hm | hm
      · have q : ∀ b ∈ tgSch.data.toList, visB b.toNat = true ∧ b.toNat ≠ 35 := by decide +kernel
        exact q b hm
      · exact hgood.2 b (List.mem_of_mem_drop hm)⟩
    have h7 : T.extract 0 7 = tgSch := ba_ext (by rw [Lib.extract_data, hl, List.drop_zero, List.take_append_of_le_length (by rw [tgSch_len]; omega)]; rfl)
    have h0 : bt T 0 = 104 := by
      have q : T.data.toList[0]? = some 104 := by rw [hl]; rfl
      obtain ⟨q1, q2⟩ := List.getElem?_eq_some_iff.1 q
      rw [← bt_list T 0 (by omega), q2]
      rfl
    have hA : tgAbs T = true := tg_abs_iff.2 ⟨hTs, by rw [h7]; decide +kernel⟩
    rw [tg_abs hbT hm (by omega) (fun q => absurd (q.1 ▸ hTs) (by decide)) (by unfold tgOkA; rw [hA, e1, k2]; rfl), e1, e2]
theorem tg_out_con {s : ByteArray} (h : (tgR tgCon s).e = 0) : tgOut tgCon (tgR tgCon s).fm (tgR tgCon s).au (tgR tgCon s).pa = s := by
  obtain ⟨hb, ⟨_, hk, e⟩ | ⟨hm, h47, e⟩ | ⟨q, rfl, e⟩ | ⟨hm, h47, hk, e⟩⟩ := tg_cases h
  · rw [e]; rfl
  · exact absurd rfl hm
  · exact absurd q (by decide)
  · exact absurd rfl hm
theorem tg_root {pa : ByteArray} (h : ∀ b ∈ pa.data.toList, visB b.toNat = true ∧ b.toNat ≠ 35) : tgBad (⟨#[47]⟩ ++ pa) = false ∧ bt (⟨#[47]⟩ ++ pa) 0 = 47 := by
  refine ⟨tgBad_no.2 ⟨by rw [ByteArray.size_append]; show 0 < 1 + _; omega, fun b hb => ?_⟩, by rw [app_bt _ _ 0 (by decide)]; rfl⟩
  rw [cat_app] at hb
  rcases List.mem_append.1 hb with hb | hb
  · have q : ∀ b ∈ (⟨#[47]⟩ : ByteArray).data.toList, visB b.toNat = true ∧ b.toNat ≠ 35 := by decide +kernel
    exact q b hb
  · exact h b hb
/-- What of a target that was read goes to an origin can be read again. -/
structure TgO (m o : ByteArray) : Prop where
  e : (tgR m o).e = 0
  tx : tgTx (tgR m o).fm (tgR m o).au (tgR m o).pa = o
  pos : 0 < o.size
  head : o = ⟨#[42]⟩ ∨ bt o 0 = 47
theorem TgO.one {m o : ByteArray} (h : tgBad o = false) (hm : m ≠ tgCon) (h47 : bt o 0 = 47) : TgO m o := by
  have e := tg_one h hm h47
  exact ⟨by rw [e], by rw [e]; rfl, (tgBad_no.1 h).1, .inr h47⟩
theorem TgO.star : TgO tgOpt ⟨#[42]⟩ := by
  have e := tg_star
  exact ⟨by rw [e], by rw [e]; rfl, by decide, .inl rfl⟩
theorem tgOut_abs (m au pa : ByteArray) : tgOut m 2 au pa = if pa.size = 0 ∧ m = tgOpt then ⟨#[42]⟩ else if 0 < pa.size ∧ bt pa 0 = 47 then pa else ⟨#[47]⟩ ++ pa := if_neg (by decide)
theorem tg_out_back {m s : ByteArray} (h : (tgR m s).e = 0) (hm : m ≠ tgCon) : TgO m (tgOut m (tgR m s).fm (tgR m s).au (tgR m s).pa) := by
  obtain ⟨hb, ⟨q, hk, e⟩ | ⟨_, h47, e⟩ | ⟨rfl, rfl, e⟩ | ⟨_, h47, hk, e⟩⟩ := tg_cases h
  · exact absurd q hm
  · rw [e]; exact TgO.one hb hm h47
  · rw [e]; exact TgO.star
  · rw [e]
    have hg := (tgBad_no.1 hb).2
    have hp : ∀ b ∈ (tgPa s).data.toList, visB b.toNat = true ∧ b.toNat ≠ 35 := fun b hb => by
      rw [tgPa_list] at hb
      exact hg b (List.mem_of_mem_drop (List.mem_of_mem_drop hb))
    dsimp only
    rw [tgOut_abs]
    generalize tgPa s = pa at *
    split
    · next q => rw [q.2]; exact TgO.star
    · split
      · next q => exact TgO.one (tgBad_no.2 ⟨q.1, hp⟩) hm q.2
      · exact TgO.one (tg_root hp).1 hm (tg_root hp).2
end Go.Proofs.YtahehpgnemanmaaDoor
