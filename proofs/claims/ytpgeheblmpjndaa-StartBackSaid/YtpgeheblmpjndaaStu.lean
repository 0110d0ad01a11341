/- First lines (layer 15): what is read comes back from its line. -/
import Derived.Test.YtpgeheblmpjndaaStt
namespace Go.Proofs.Ytpgeheblmpjndaa
open Go.RowKit
set_option linter.unusedVariables false
set_option linter.unusedSimpArgs false

theorem upTo_app : ∀ (A B : List UInt8), (∀ c ∈ A, c ≠ 32) → upTo 32 (A ++ 32 :: B) = A.length
  | [], B, _ => by simp [upTo]
  | c :: A, B, h => by
    have ih := upTo_app A B fun d hd => h d (by simp [hd])
    have hc : c ≠ 32 := h c (by simp)
    rw [List.cons_append, List.length_cons, ← ih]
    have one : ∀ l : List UInt8, upTo 32 (c :: l) = upTo 32 l + 1 := fun l => by simp [upTo, hc]
    exact one _
theorem cut_app {a b s : ByteArray} (h : ∀ c ∈ a.data.toList, c ≠ 32) (hs : s.data.toList = a.data.toList ++ 32 :: b.data.toList) : cut1 s = a ∧ cut2 s = b := by
  have hb : blk1 s = a.data.toList.length := by unfold blk1; rw [hs]; exact upTo_app _ _ h
  constructor
  · refine ba_ext ?_
    unfold cut1
    rw [Lib.extract_data, hb, hs]
    simp
  · refine ba_ext ?_
    rw [cut2_data, hb, hs, List.drop_append, List.drop_eq_nil_of_le (by omega), Nat.add_sub_cancel_left]
    rfl
theorem no32_tok {m : ByteArray} (h : tokenB m = true) : ∀ c ∈ m.data.toList, c ≠ 32 := by
  intro c hc e
  subst e
  unfold tokenB allB at h
  rw [Bool.and_eq_true] at h
  have := List.all_eq_true.1 h.2 _ hc
  revert this
  decide +kernel
theorem no32_vis {m : ByteArray} (h : visibleB m = true) : ∀ c ∈ m.data.toList, c ≠ 32 := by
  intro c hc e
  subst e
  unfold visibleB allB at h
  rw [Bool.and_eq_true] at h
  have := List.all_eq_true.1 h.2 _ hc
  revert this
  decide +kernel
theorem cnt_no {l : List UInt8} (h : ∀ c ∈ l, c ≠ 32) : l.count 32 = 0 := List.count_eq_zero.2 fun hm => h 32 hm rfl
theorem verS_low {n : Int} (h : n = 0 ∨ n = 1) : minE (verS n) = 0 ∧ minN (verS n) = n ∧ (verS n).data.toList.count 32 = 0 := by
  rcases h with rfl | rfl
  · decide +kernel
  · decide +kernel
theorem minN_low (s : ByteArray) : minN s = 0 ∨ minN s = 1 := by
  unfold minN
  split
  · split
    · exact .inl rfl
    · exact .inr rfl
  · exact .inl rfl
theorem tok_size {m : ByteArray} (h : tokenB m = true) : m.size ≠ 0 := by
  intro h0
  rw [emptyS h0] at h
  revert h
  decide +kernel
theorem req_back {s : ByteArray} (h : reqE s = 0) : (reqM s).size ≠ 0 ∧ reqE (lineH (reqM s) (reqT s) (reqN s) 0 ⟨#[]⟩) = 0 ∧ reqM (lineH (reqM s) (reqT s) (reqN s) 0 ⟨#[]⟩) = reqM s ∧ reqT (lineH (reqM s) (reqT s) (reqN s) 0 ⟨#[]⟩) = reqT s ∧ reqN (lineH (reqM s) (reqT s) (reqN s) 0 ⟨#[]⟩) = reqN s := by
  have hc : tokenB (reqM s) = true ∧ visibleB (reqT s) = true ∧ (reqN s = 0 ∨ reqN s = 1) := by
    rcases req_cases s with ⟨-, h1, -⟩ | ⟨-, -, h1, -⟩ | ⟨-, -, -, h1, -⟩ | ⟨-, -, -, h0, h1, -⟩ | ⟨-, h2, h3, -, -, e1, e2, e3⟩
    · rw [h] at h1; exact absurd h1 (by decide)
    · rw [h] at h1; exact absurd h1 (by decide)
    · rw [h] at h1; exact absurd h1 (by decide)
    · rw [h] at h1; exact absurd h1.symm h0
    · rw [e1, e2, e3]; exact ⟨h2, h3, minN_low _⟩
  obtain ⟨ht, hv, hn⟩ := hc
  generalize reqM s = m at *
  generalize reqT s = t at *
  generalize reqN s = n at *
  have hm := tok_size ht
  have hL : lineH m t n 0 ⟨#[]⟩ = m ++ ⟨#[32]⟩ ++ t ++ ⟨#[32]⟩ ++ verS n := if_neg hm
  obtain ⟨v1, v2, v3⟩ := verS_low hn
  rw [hL]
  obtain ⟨c1, c2⟩ := cut_app (a := m) (b := t ++ ⟨#[32]⟩ ++ verS n) (s := m ++ ⟨#[32]⟩ ++ t ++ ⟨#[32]⟩ ++ verS n) (no32_tok ht) (by simp only [cat_app, List.append_assoc]; rfl)
  obtain ⟨c3, c4⟩ := cut_app (a := t) (b := verS n) (s := t ++ ⟨#[32]⟩ ++ verS n) (no32_vis hv) (by simp only [cat_app, List.append_assoc]; rfl)
  have hcnt : cnt32 (m ++ ⟨#[32]⟩ ++ t ++ ⟨#[32]⟩ ++ verS n) = 2 := by
    unfold cnt32
    simp only [cat_app, List.count_append]
    rw [cnt_no (no32_tok ht), cnt_no (no32_vis hv), v3]
    rfl
  generalize m ++ ⟨#[32]⟩ ++ t ++ ⟨#[32]⟩ ++ verS n = L at *
  generalize t ++ ⟨#[32]⟩ ++ verS n = K at *
  have he : reqE L = 0 := by
    unfold reqE
    rw [if_neg (by omega), c1, if_neg (by rw [ht]; decide), c2, c3, if_neg (by rw [hv]; decide), c4]
    exact v1
  exact ⟨hm, he, by unfold reqM; rw [if_pos he]; exact c1, by unfold reqT; rw [if_pos he, c2]; exact c3, by unfold reqN; rw [if_pos he, c2, c4]; exact v2⟩
theorem pad_three : ∀ n, n < 600 → 100 ≤ n → (wdig 10 3 n).length = 3 ∧ ((wdig 10 3 n).all fun c => digC c.toNat) = true ∧ valN 10 (wdig 10 3 n) = n := by decide +kernel
theorem padL_three {n : Nat} (h1 : n ≤ 599) (h2 : 100 ≤ n) : padL (n : Int) 3 = wdig 10 3 n := by
  unfold padL
  rw [if_neg (by omega), Int.toNat_natCast]
  rfl
theorem sta_back {s : ByteArray} (h : staE s = 0) : 100 ≤ staS s ∧ staE (lineH ⟨#[]⟩ ⟨#[]⟩ (staN s) (staS s) (staR s)) = 0 ∧ staN (lineH ⟨#[]⟩ ⟨#[]⟩ (staN s) (staS s) (staR s)) = staN s ∧ staS (lineH ⟨#[]⟩ ⟨#[]⟩ (staN s) (staS s) (staR s)) = staS s ∧ staR (lineH ⟨#[]⟩ ⟨#[]⟩ (staN s) (staS s) (staR s)) = staR s := by
  have hc : (staN s = 0 ∨ staN s = 1) ∧ (∃ k : Nat, 100 ≤ k ∧ k ≤ 599 ∧ staS s = (k : Int)) ∧ allB valueB (staR s) = true := by
    rcases sta_cases s with ⟨-, h1, -⟩ | ⟨-, h0, h1, -⟩ | ⟨-, -, -, h1, -⟩ | ⟨-, -, -, -, -, h1, -⟩ | ⟨-, -, h3, h4, h5, -, e1, e2, e3⟩
    · rw [h] at h1; exact absurd h1 (by decide)
    · rw [h] at h1; exact absurd h1.symm h0
    · rw [h] at h1; exact absurd h1 (by decide)
    · rw [h] at h1; exact absurd h1 (by decide)
    · rw [e1, e2, e3]; exact ⟨minN_low _, ⟨_, h3, h4, rfl⟩, h5⟩
  obtain ⟨hn, ⟨k, hk1, hk2, hk⟩, hv⟩ := hc
  rw [hk]
  generalize staN s = n at *
  generalize staR s = r at *
  obtain ⟨v1, v2, v3⟩ := verS_low hn
  obtain ⟨p1, p2, p3⟩ := pad_three k (by omega) hk1
  have hL : lineH ⟨#[]⟩ ⟨#[]⟩ n (k : Int) r = verS n ++ ⟨#[32]⟩ ++ ofL (wdig 10 3 k) ++ ⟨#[32]⟩ ++ r := by
    rw [← padL_three hk2 hk1]
    exact if_pos rfl
  rw [hL]
  have hd : (verS n ++ ⟨#[32]⟩ ++ ofL (wdig 10 3 k) ++ ⟨#[32]⟩ ++ r).data.toList = (verS n).data.toList ++ (32 :: (wdig 10 3 k ++ (32 :: r.data.toList))) := by
    simp only [cat_app, List.append_assoc]
    rfl
  have hvl : (verS n).data.toList.length = 8 := by rw [← ba_size']; exact verS_size n
  generalize verS n ++ ⟨#[32]⟩ ++ ofL (wdig 10 3 k) ++ ⟨#[32]⟩ ++ r = L at *
  generalize wdig 10 3 k = D at *
  match D, p1 with
  | [d0, d1, d2], _ =>
    simp only [List.cons_append, List.nil_append] at hd
    have hsz : L.size = 13 + r.data.toList.length := by rw [ba_size', hd]; simp [hvl]; omega
    have x8 : L.extract 0 8 = verS n := by
      refine ba_ext ?_
      rw [Lib.extract_data, hd, List.drop_zero, ← hvl]
      exact List.take_left
    have at' : ∀ j (c : UInt8) (hj : j < L.data.toList.length), ((verS n).data.toList ++ (32 :: d0 :: d1 :: d2 :: 32 :: r.data.toList))[j]? = some c → bt L j = c.toNat := by
      intro j c hj hc
      rw [← bt_list L j (by rw [ba_size']; exact hj)]
      have : L.data.toList[j]? = some c := by rw [hd]; exact hc
      rw [List.getElem?_eq_getElem hj] at this
      rw [Option.some.inj this]
    have hl : L.data.toList.length = 13 + r.data.toList.length := by rw [← ba_size']; exact hsz
    have idx : ∀ i (c : UInt8), (32 :: d0 :: d1 :: d2 :: 32 :: r.data.toList)[i]? = some c → ((verS n).data.toList ++ (32 :: d0 :: d1 :: d2 :: 32 :: r.data.toList))[8 + i]? = some c := by
      intro i c h
      rw [List.getElem?_append_right (by omega), hvl, Nat.add_sub_cancel_left]
      exact h
    have b8 := at' 8 32 (by omega) (idx 0 32 rfl)
    have b9 := at' 9 d0 (by omega) (idx 1 d0 rfl)
    have b10 := at' 10 d1 (by omega) (idx 2 d1 rfl)
    have b11 := at' 11 d2 (by omega) (idx 3 d2 rfl)
    have b12 := at' 12 32 (by omega) (idx 4 32 rfl)
    simp only [List.all_cons, List.all_nil, Bool.and_true, Bool.and_eq_true] at p2
    have hfm : formS (verS n) = true := by
      have := minE_ne3 (s := verS n)
      exact this.1 (by rw [v1]; decide)
    have hF : staF L = true := by
      unfold staF
      rw [x8, hfm, b8, b9, b10, b11, b12, p2.1, p2.2.1, p2.2.2, decide_eq_true (show 12 ≤ L.size by omega)]
      simp
    have hV : staV L = k := by
      unfold staV
      rw [Lib.extract_data, hd, List.drop_append, hvl]
      have e1 : List.drop 9 (verS n).data.toList = [] := List.drop_eq_nil_of_le (by omega)
      rw [e1]
      simpa using p3
    have hX : staX L = r := by
      refine ba_ext ?_
      unfold staX
      rw [Lib.extract_data, hd, List.drop_append, hvl]
      have e1 : List.drop 13 (verS n).data.toList = [] := List.drop_eq_nil_of_le (by omega)
      rw [e1, hsz]
      simp
      exact List.take_of_length_le (by rw [ba_size']; exact Nat.le_refl _)
    have hE : staE L = 0 := by
      unfold staE
      rw [if_neg (by rw [hF]; decide), x8, if_neg (by rw [v1]; decide), hV, if_neg (by omega), hX, if_neg (by rw [hv]; decide)]
    exact ⟨by omega, hE, by unfold staN; rw [if_pos hE, x8]; exact v2, by unfold staS; rw [if_pos hE, hV], by unfold staR; rw [if_pos hE]; exact hX⟩
theorem lineH_size (m t : ByteArray) (mi st : Int) (r : ByteArray) (hm : m.size ≤ 2000) (ht : t.size ≤ 2000) (hr : r.size ≤ 2000) : (lineH m t mi st r).size ≤ 1000000 := by
  have hv := verS_size mi
  have hp := padL_size st
  have ap : ∀ a b : ByteArray, (a ++ b).size = a.size + b.size := fun a b => by rw [ba_size', ba_size', ba_size', cat_app, List.length_append]
  have h1 : (⟨#[32]⟩ : ByteArray).size = 1 := rfl
  unfold lineH
  split <;> simp only [ap, h1] <;> omega
end Go.Proofs.Ytpgeheblmpjndaa
