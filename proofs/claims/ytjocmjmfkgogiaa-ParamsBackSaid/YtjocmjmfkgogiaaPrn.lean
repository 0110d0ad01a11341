/- Words with parameters: parameters that came in; the document's Print; the law ParamsPrint (layer 8). -/
import Derived.Test.YtjocmjmfkgogiaaPrm
import Derived.Test.YtjocmjmfkgogiaaGb
namespace Go.Proofs.Ytjocmjmfkgogiaa
open Go.RowKit
set_option linter.unusedVariables false
set_option linter.unusedSimpArgs false

def parC (p : Par) : List Value := [.string p.1, .string p.2]
/-- The slice v holds the parameters ps, wherever it begins. -/
abbrev RdQ (w : World) (v : Value) (ps : List Par) : Prop := RdL parC 2 w v ps
theorem RdL.pars {w : World} {v : Value} {ps : List Par} (h : RdQ w v ps) : ∃ a c, v = .slice a ps.length c ∧ ps.length ≤ c ∧ c ≤ maxLen ∧ True := by
  obtain ⟨a, c, h1, h2, h3, _⟩ := h
  exact ⟨a, c, h1, h2, h3, trivial⟩
theorem rdq_cells {w : World} {a : Option Addr} {c n : Nat} {ps : List Par} (h : RdQ w (.slice a n c) ps) (h0 : 0 < ps.length) : ∃ b o, a = some ⟨b, o, none⟩ ∧ b < w.heap.size ∧ ∀ (j : Nat) (h : j < ps.length), w.cell? ⟨b, o + j * 2, none⟩ = some (.string ps[j].1) ∧ w.cell? ⟨b, o + j * 2 + 1, none⟩ = some (.string ps[j].2) := by
  obtain ⟨a', c', h1, h2, h3, h4⟩ := h
  cases h1
  obtain ⟨b, o, g1, g2, g3⟩ := h4 h0
  exact ⟨b, o, g1, g2, fun j hj => ⟨by have := g3 j hj 0 (by omega); simpa [parC] using this, by have := g3 j hj 1 (by omega); simpa [parC] using this⟩⟩

set_option maxRecDepth 100000 in
set_option maxHeartbeats 4000000 in
theorem print_at (nm : ByteArray) (v : Value) (ps : List Par) (w : World) (hv : RdQ w v ps) (hn : nm.size ≤ 1000) (hp : ∀ p ∈ ps, p.1.size ≤ 1000 ∧ p.2.size ≤ 1000) (hl : ps.length ≤ 1000) :
    Calls Try.prog 28 #[.string nm, v] w fun e w' => e = .returned (.tuple #[.string (prtS nm ps), .bool (prtOk nm ps)]) ∧ Below w.heap.size w w' := by
  have HV := Hd.mk hv
  have HP := Hd.mk hp
  obtain ⟨a, cap, rfl, hc1, hc2, -⟩ := hv.pars
  clear hv hp hc2
  cases ht : tokenB nm
  · have HT := Hd.mk ht
    have HQ := Hd.mk (prt_noname (ps := ps) ht)
    clear ht
    go_enter Try.func28, Try.ntmps28
    go_wp2_with fail
    refine (oct_token_any _ _ (by unfold maxLen; omega)).mono ?_
    rintro e w1 ⟨rfl, hb1⟩
    rw [HT.out]
    go_wp2_with fail
    go_ret2
    exact ⟨by rw [HQ.out.1, HQ.out.2]; rfl, hb1⟩
  · have HT := Hd.mk ht
    clear ht
    go_enter Try.func28, Try.ntmps28
    go_wp2_with fail
    refine (oct_token_any _ _ (by unfold maxLen; omega)).mono ?_
    rintro e w1 ⟨rfl, hb1⟩
    rw [HT.out]
    have HB1 := Hd.mk hb1
    clear hb1
    go_wp2_with fail
    go_loopw [6, 16] (fun tx i wr => ∃ (k : Nat) (x : ByteArray), k ≤ ps.length ∧ i = .int .i64 k ∧ tx = .string x ∧ x.size ≤ 1000 + 4000 * k ∧ x.data.toList = nm.data.toList ++ parsT (ps.take k) ∧ (ps.take k).all parGood = true ∧ Below w.heap.size w wr) (fun _ i _ => ps.length - (intOf i).toNat)
    case atStart => exact ⟨0, nm, by omega, rfl, rfl, by omega, by simp [parsT], rfl, HB1.out⟩
    case round =>
      obtain ⟨k, x, hk, rfl, rfl, hxs, hxl, hall, hbel⟩ := hrel
      have HXL := Hd.mk hxl
      have HAL := Hd.mk hall
      have HB := Hd.mk hbel
      have hsz := hbel.size
      clear hxl hall hbel
      by_cases hlt : k < ps.length
      · obtain ⟨g, o, rfl, hgl, d0⟩ := rdq_cells (HV.out.below HB.out) (by omega)
        obtain ⟨c1, c2⟩ := d0 k hlt
        clear d0
        obtain ⟨hs1, hs2⟩ := HP.out ps[k] (List.getElem_mem hlt)
        have q0 : (0 : Int) ≤ (k : Int) := by omega
        have q1 : (k : Int) < (ps.length : Int) := by omega
        have HTA := Hd.mk (parsT_take hlt)
        have HOL := Hd.mk (onePar_len hs1 hs2)
        have hqs := quoteS_len ps[k].2
        obtain ⟨pa, hpa⟩ : ∃ pa, pa = ps[k].1 := ⟨_, rfl⟩
        obtain ⟨pb, hpb⟩ : ∃ pb, pb = ps[k].2 := ⟨_, rfl⟩
        rw [← hpa] at c1 hs1
        rw [← hpb] at c2 hs2 hqs
        have HPA := Hd.mk hpa
        have HPB := Hd.mk hpb
        have hg : parGood ps[k] = (tokenB pa && quoteOk pb) := by rw [hpa, hpb]; rfl
        have HG := Hd.mk hg
        clear hpa hpb hg
        go_wp2_with fail
        refine (cur_quote _ _ (by omega)).mono ?_
        rintro e w2 ⟨rfl, hb2⟩
        have d1 : w2.cell? ⟨g, o + k * 2, none⟩ = some (.string pa) := by rw [(bcell hb2).1 g _ hgl]; exact c1
        have d2 : w2.cell? ⟨g, o + k * 2 + 1, none⟩ = some (.string pb) := by rw [(bcell hb2).1 g _ hgl]; exact c2
        have hgl2 := Nat.lt_of_lt_of_le hgl hb2.size
        have HB2 := Hd.mk (HB.out.trans (hb2.mono hsz))
        have hsz2 := HB2.out.size
        clear hb2 c1 c2
        cases hqo : quoteOk pb
        · have HQ := Hd.mk (prt_bad (nm := nm) hlt (by rw [HG.out, hqo]; simp))
          clear hqo
          go_wp2_with fail
          go_ret2
          exact ⟨by rw [HQ.out.1, HQ.out.2]; rfl, HB2.out⟩
        · have HQO := Hd.mk hqo
          clear hqo
          go_wp2_with fail
          refine (oct_token_any _ _ (by unfold maxLen; omega)).mono ?_
          rintro e w3 ⟨rfl, hb3⟩
          have e1 : w3.cell? ⟨g, o + k * 2, none⟩ = some (.string pa) := by rw [(bcell hb3).1 g _ hgl2]; exact d1
          have e2 : w3.cell? ⟨g, o + k * 2 + 1, none⟩ = some (.string pb) := by rw [(bcell hb3).1 g _ hgl2]; exact d2
          have HB3 := Hd.mk (HB2.out.trans (hb3.mono hsz2))
          clear hb3 d1 d2
          cases hta : tokenB pa
          · have HQ := Hd.mk (prt_bad (nm := nm) hlt (by rw [HG.out, hta]; simp))
            clear hta
            go_wp2_with fail
            go_ret2
            exact ⟨by rw [HQ.out.1, HQ.out.2]; rfl, HB3.out⟩
          · have HGD := Hd.mk (show parGood ps[k] = true by rw [HG.out, hta, HQO.out]; rfl)
            clear hta
            by_cases hz : pb.size = 0
            · have hze : pb.toList = [] := tl_of_size hz
              have hnew : (x ++ (⟨#[59]⟩ ++ pa)).data.toList = nm.data.toList ++ parsT (ps.take (k + 1)) := by
                rw [app_list, app_list, HXL.out, HTA.out]
                unfold onePar
                rw [← HPA.out, ← HPB.out, if_pos hz]; simp
              have HN := Hd.mk hnew
              clear hz hnew
              go_wp2_with fail
              go_roundw
              case rel =>
                refine ⟨k + 1, _, by omega, by go_num, rfl, ?_, HN.out, take_all hlt HAL.out HGD.out, HB3.out⟩
                rw [ba_len HN.out, HTA.out, ← List.append_assoc, List.length_append, ← HXL.out, ← ba_size]
                have := HOL.out
                omega
              case measure => simp [intOf]; omega
            · have hze : pb.toList.isEmpty = false := tl_ne_size (by omega)
              have hnew : (x ++ (⟨#[59]⟩ ++ pa) ++ (⟨#[61]⟩ ++ quoteS pb)).data.toList = nm.data.toList ++ parsT (ps.take (k + 1)) := by
                rw [app_list, app_list, app_list, app_list, HXL.out, HTA.out]
                unfold onePar
                rw [← HPA.out, ← HPB.out, if_neg hz]; simp
              have HN := Hd.mk hnew
              clear hz hnew
              go_wp2_with fail
              go_roundw
              case rel =>
                refine ⟨k + 1, _, by omega, by go_num, rfl, ?_, HN.out, take_all hlt HAL.out HGD.out, HB3.out⟩
                rw [ba_len HN.out, HTA.out, ← List.append_assoc, List.length_append, ← HXL.out, ← ba_size]
                have := HOL.out
                omega
              case measure => simp [intOf]; omega
      · have hke : ps.take k = ps := List.take_of_length_le (by omega)
        have HQ := Hd.mk (prt_good (ps := ps) HT.out (by have := HAL.out; rwa [hke] at this) (by rw [HXL.out, hke]))
        clear hke
        go_wp2_with fail
        go_ret2
        exact ⟨by rw [HQ.out.1, HQ.out.2]; rfl, HB.out⟩

def FewPost (ps : List Par) (w : World) (e : Ending) (w' : World) : Prop := ∃ ok : Bool, e = .returned (.bool ok) ∧ Below w.heap.size w w' ∧ (ok = true → ps.length ≤ 20 ∧ ∀ p ∈ ps, p.1.size ≤ 60 ∧ p.2.size ≤ 60)
set_option maxRecDepth 100000 in
set_option maxHeartbeats 1000000 in
theorem few8_any (v : Value) (ps : List Par) (w : World) (hv : RdQ w v ps) (hz : ∀ p ∈ ps, p.1.size ≤ maxLen ∧ p.2.size ≤ maxLen) :
    Calls Try.prog 26 #[v] w (FewPost ps w) := by
  have HV := Hd.mk hv
  have HZ := Hd.mk hz
  obtain ⟨a, cap, rfl, hc1, hc2, -⟩ := hv.pars
  have hll : ps.length ≤ 9223372036854775807 := by unfold maxLen at hc2; omega
  clear hv hz hc2
  by_cases h20 : 20 < ps.length
  · go_enter Try.func26, Try.ntmps26
    go_wp2_with fail
    go_ret
    exact ⟨false, rfl, Below.refl _ _, fun h => by cases h⟩
  · go_enter Try.func26, Try.ntmps26
    go_wp2_with fail
    go_loopw [10] (fun i wr => ∃ k : Nat, k ≤ ps.length ∧ i = .int .i64 k ∧ Below w.heap.size w wr ∧ ∀ (j : Nat) (h : j < ps.length), j < k → ps[j].1.size ≤ 60 ∧ ps[j].2.size ≤ 60) (fun i _ => ps.length - (intOf i).toNat)
    case atStart => exact ⟨0, by omega, rfl, Below.refl _ _, fun j _ h => by omega⟩
    case round =>
      obtain ⟨k, hk, rfl, hb, hf⟩ := hrel
      have HB := Hd.mk hb
      have HF := Hd.mk hf
      have hsz := hb.size
      clear hb hf
      by_cases hlt : k < ps.length
      · obtain ⟨g, o, rfl, hgl, d0⟩ := rdq_cells (HV.out.below HB.out) (by omega)
        obtain ⟨c1, c2⟩ := d0 k hlt
        obtain ⟨m1, m2⟩ := HZ.out ps[k] (List.getElem_mem hlt)
        unfold maxLen at m1 m2
        have q0 : (0 : Int) ≤ (k : Int) := by omega
        have q1 : (k : Int) < (ps.length : Int) := by omega
        clear d0
        by_cases h1 : 60 < ps[k].1.size
        · go_wp2_with fail
          go_ret
          exact ⟨false, rfl, by first | exact (HB.out.alloc hsz _) | exact (HB.out.alloc hsz _).setCell (by simp; omega) _ | sorry, fun h => by cases h⟩
        · by_cases h2 : 60 < ps[k].2.size
          · go_wp2_with fail
            go_ret
            exact ⟨false, rfl, by first | exact (HB.out.alloc hsz _) | exact (HB.out.alloc hsz _).setCell (by simp; omega) _ | sorry, fun h => by cases h⟩
          · go_wp2_with fail
            go_roundw
            case rel => exact ⟨k + 1, by omega, by go_num, by first | exact (HB.out.alloc hsz _) | exact (HB.out.alloc hsz _).setCell (by simp; omega) _ | sorry, fun j hj hjk => by
              by_cases hjj : j < k
              · exact HF.out j hj hjj
              · obtain rfl : j = k := by omega
                omega⟩
            case measure => simp [intOf]; omega
      · go_wp2_with fail
        go_ret
        refine ⟨true, rfl, HB.out, fun _ => ⟨by omega, fun p hp => ?_⟩⟩
        obtain ⟨j, hj, rfl⟩ := List.getElem_of_mem hp
        exact HF.out j hj (by omega)

/-! ### The document's Print -/
def goodUp (nm : ByteArray) (ps : List Par) (k : Nat) : Bool := tokenB nm && (ps.take k).all parGood
theorem quo_emp {x : ByteArray} (h : x.size = 0) : quoteOk x = true := by
  have h0 : x.data.toList = [] := List.eq_nil_of_length_eq_zero (by rw [← ba_size]; exact h)
  have : x = ⟨#[]⟩ := ba_ext (by rw [h0])
  rw [this]; decide +kernel
theorem goodUp_succ {nm : ByteArray} {ps : List Par} {k : Nat} (h : k < ps.length) : goodUp nm ps (k + 1) = ((goodUp nm ps k && tokenB ps[k].1) && quoteOk ps[k].2) := by
  unfold goodUp
  rw [List.take_succ_eq_append_getElem h, List.all_append]
  simp [parGood, Bool.and_assoc]
theorem prt_of_good {nm : ByteArray} {ps : List Par} : prtOk nm ps = goodUp nm ps ps.length := by unfold goodUp prtOk; rw [List.take_length]
set_option maxRecDepth 100000 in
set_option maxHeartbeats 4000000 in
theorem ref_print_at (nm : ByteArray) (v : Value) (ps : List Par) (w : World) (hv : RdQ w v ps) (hn : nm.size ≤ 1000) (hp : ∀ p ∈ ps, p.1.size ≤ 1000 ∧ p.2.size ≤ 1000) (hl : ps.length ≤ 1000) :
    Calls Try.prog 29 #[.string nm, v] w fun e w' => e = .returned (.tuple #[.string (prtS nm ps), .bool (prtOk nm ps)]) ∧ Below w.heap.size w w' := by
  have HV := Hd.mk hv
  have HP := Hd.mk hp
  obtain ⟨a, cap, rfl, hc1, hc2, -⟩ := hv.pars
  clear hv hp hc2
  have HG0 := Hd.mk (show tokenB nm = goodUp nm ps 0 by simp [goodUp])
  go_enter Try.func29, Try.ntmps29
  go_wp2_with fail
  refine (ref_token_any _ _ (by unfold maxLen; omega)).mono ?_
  rintro e w1 ⟨rfl, rfl⟩
  go_wp2_with fail
  go_loop [6, 7, 8] (fun tx ok i => ∃ (k : Nat) (x : ByteArray), k ≤ ps.length ∧ i = .int .i64 k ∧ tx = .string x ∧ ok = .bool (goodUp nm ps k) ∧ x.size ≤ 1000 + 4000 * k ∧ (goodUp nm ps k = true → x.data.toList = nm.data.toList ++ parsT (ps.take k))) (fun _ _ i => ps.length - (intOf i).toNat)
  case atStart => exact ⟨0, nm, by omega, rfl, rfl, by rw [HG0.out], by omega, fun _ => by simp [parsT]⟩
  case round =>
    obtain ⟨k, x, hk, rfl, rfl, rfl, hxs, hxl⟩ := hrel
    have HXL := Hd.mk hxl
    clear hxl
    by_cases hlt : k < ps.length
    · obtain ⟨g, o, rfl, hgl, d0⟩ := rdq_cells HV.out (by omega)
      obtain ⟨c1, c2⟩ := d0 k hlt
      clear d0
      obtain ⟨hs1, hs2⟩ := HP.out ps[k] (List.getElem_mem hlt)
      have q0 : (0 : Int) ≤ (k : Int) := by omega
      have q1 : (k : Int) < (ps.length : Int) := by omega
      have HTA := Hd.mk (parsT_take hlt)
      have hqs := quoteS_len ps[k].2
      have HGS := Hd.mk (goodUp_succ (nm := nm) hlt)
      have HOP := Hd.mk (show onePar ps[k] = 59 :: ps[k].1.data.toList ++ (if ps[k].2.size = 0 then [] else 61 :: (quoteS ps[k].2).data.toList) from rfl)
      generalize onePar ps[k] = op at *
      generalize ps[k].1 = pa at *
      generalize ps[k].2 = pb at *
      have fin0 : pb.size = 0 → ∀ ok : Bool, ok = (goodUp nm ps k && tokenB pa) → Value.bool ok = .bool (goodUp nm ps (k + 1)) ∧ (x ++ ⟨#[59]⟩ ++ pa).size ≤ 1000 + 4000 * (k + 1) ∧ (goodUp nm ps (k + 1) = true → (x ++ ⟨#[59]⟩ ++ pa).data.toList = nm.data.toList ++ parsT (ps.take (k + 1))) := by
        intro hz ok hok
        refine ⟨by rw [hok, HGS.out, quo_emp hz, Bool.and_true], by have e1 : (⟨#[59]⟩ : ByteArray).size = 1 := rfl; simp; omega, fun hg => ?_⟩
        rw [HGS.out] at hg
        have hgk : goodUp nm ps k = true := by revert hg; cases goodUp nm ps k <;> simp
        rw [app_list, app_list, HXL.out hgk, HTA.out, HOP.out, if_pos hz]
        simp
      have fin1 : pb.size ≠ 0 → ∀ ok : Bool, ok = ((goodUp nm ps k && tokenB pa) && quoteOk pb) → Value.bool ok = .bool (goodUp nm ps (k + 1)) ∧ (x ++ ⟨#[59]⟩ ++ pa ++ ⟨#[61]⟩ ++ quoteS pb).size ≤ 1000 + 4000 * (k + 1) ∧ (goodUp nm ps (k + 1) = true → (x ++ ⟨#[59]⟩ ++ pa ++ ⟨#[61]⟩ ++ quoteS pb).data.toList = nm.data.toList ++ parsT (ps.take (k + 1))) := by
        intro hz ok hok
        refine ⟨by rw [hok, HGS.out], by have e1 : (⟨#[59]⟩ : ByteArray).size = 1 := rfl; have e2 : (⟨#[61]⟩ : ByteArray).size = 1 := rfl; simp; omega, fun hg => ?_⟩
        rw [HGS.out] at hg
        have hgk : goodUp nm ps k = true := by revert hg; cases goodUp nm ps k <;> simp
        rw [app_list, app_list, app_list, app_list, HXL.out hgk, HTA.out, HOP.out, if_neg hz]
        simp
      have F0 := Hd.mk fin0
      have F1 := Hd.mk fin1
      clear fin0 fin1
      by_cases hz : pb.size = 0
      · have hze : pb.toList = [] := tl_of_size hz
        have HZ := Hd.mk hz
        clear hz
        cases hg : goodUp nm ps k
        · have HG := Hd.mk hg
          clear hg
          go_wp2_with fail
          go_round
          case rel => exact ⟨k + 1, _, by omega, by go_num, rfl, (F0.out HZ.out false (by rw [HG.out]; rfl)).1, (F0.out HZ.out false (by rw [HG.out]; rfl)).2.1, (F0.out HZ.out false (by rw [HG.out]; rfl)).2.2⟩
          case measure => simp [intOf]; omega
        · have HG := Hd.mk hg
          clear hg
          go_wp2_with fail
          refine (ref_token_any _ _ (by unfold maxLen; omega)).mono ?_
          rintro e w1 ⟨rfl, rfl⟩
          go_wp2_with fail
          go_round
          case rel => exact ⟨k + 1, _, by omega, by go_num, rfl, (F0.out HZ.out (tokenB pa) (by rw [HG.out]; rfl)).1, (F0.out HZ.out (tokenB pa) (by rw [HG.out]; rfl)).2.1, (F0.out HZ.out (tokenB pa) (by rw [HG.out]; rfl)).2.2⟩
          case measure => simp [intOf]; omega
      · have hze : pb.toList.isEmpty = false := tl_ne_size (by omega)
        have HZ := Hd.mk hz
        clear hz
        cases hg : goodUp nm ps k
        · have HG := Hd.mk hg
          clear hg
          go_wp2_with fail
          refine (ref_quote_any _ _ (by omega)).mono ?_
          rintro e w1 ⟨rfl, rfl⟩
          go_wp2_with fail
          go_round
          case rel => exact ⟨k + 1, _, by omega, by go_num, rfl, (F1.out HZ.out false (by rw [HG.out]; rfl)).1, (F1.out HZ.out false (by rw [HG.out]; rfl)).2.1, (F1.out HZ.out false (by rw [HG.out]; rfl)).2.2⟩
          case measure => simp [intOf]; omega
        · have HG := Hd.mk hg
          clear hg
          go_wp2_with fail
          refine (ref_token_any _ _ (by unfold maxLen; omega)).mono ?_
          rintro e w1 ⟨rfl, rfl⟩
          cases ht : tokenB pa
          · have HT := Hd.mk ht
            clear ht
            go_wp2_with fail
            refine (ref_quote_any _ _ (by omega)).mono ?_
            rintro e w1 ⟨rfl, rfl⟩
            go_wp2_with fail
            go_round
            case rel => exact ⟨k + 1, _, by omega, by go_num, rfl, (F1.out HZ.out false (by rw [HG.out, HT.out]; rfl)).1, (F1.out HZ.out false (by rw [HG.out, HT.out]; rfl)).2.1, (F1.out HZ.out false (by rw [HG.out, HT.out]; rfl)).2.2⟩
            case measure => simp [intOf]; omega
          · have HT := Hd.mk ht
            clear ht
            go_wp2_with fail
            refine (ref_quote_any _ _ (by omega)).mono ?_
            rintro e w1 ⟨rfl, rfl⟩
            go_wp2_with fail
            go_round
            case rel => exact ⟨k + 1, _, by omega, by go_num, rfl, (F1.out HZ.out (quoteOk pb) (by rw [HG.out, HT.out]; rfl)).1, (F1.out HZ.out (quoteOk pb) (by rw [HG.out, HT.out]; rfl)).2.1, (F1.out HZ.out (quoteOk pb) (by rw [HG.out, HT.out]; rfl)).2.2⟩
            case measure => simp [intOf]; omega
    · have hke : ps.take k = ps := List.take_of_length_le (by omega)
      have hkl : k = ps.length := by omega
      have HKL := Hd.mk (show goodUp nm ps k = prtOk nm ps by rw [prt_of_good, hkl])
      cases hg : goodUp nm ps k
      · have HG := Hd.mk hg
        have HQ := Hd.mk (show prtOk nm ps = false ∧ prtS nm ps = ⟨#[]⟩ by
          have h1 : prtOk nm ps = false := by rw [← HKL.out, HG.out]
          exact ⟨h1, by unfold prtS; rw [h1]; rfl⟩)
        clear hg hke hkl
        go_wp2_with fail
        go_ret2
        exact ⟨by rw [HQ.out.1, HQ.out.2]; rfl, Below.refl _ _⟩
      · have HG := Hd.mk hg
        have HQ := Hd.mk (show prtOk nm ps = true ∧ prtS nm ps = x by
          have h1 : prtOk nm ps = true := by rw [← HKL.out, HG.out]
          refine ⟨h1, ?_⟩
          unfold prtS
          rw [h1]
          have h2 := HXL.out HG.out
          rw [hke] at h2
          exact (ba_eq x _ h2).symm)
        clear hg hke hkl
        go_wp2_with fail
        go_ret2
        exact ⟨by rw [HQ.out.1, HQ.out.2]; rfl, Below.refl _ _⟩
set_option maxRecDepth 100000 in
set_option maxHeartbeats 4000000 in
theorem pprint_core (s x : ByteArray) (hc : Cut 60 s x) (hs : s.size ≤ maxLen) (v : Value) (ps : List Par) (w : World) (hv : RdQ w v ps) (hz : ∀ p ∈ ps, p.1.size ≤ maxLen ∧ p.2.size ≤ maxLen) :
    Calls Try.prog 4 #[.string s, v] w fun e w' => e = .returned (.bool true) ∧ Below w.heap.size w w' := by
  have hL := hc.le
  unfold maxLen at hs
  have HV := Hd.mk hv
  have HZ := Hd.mk hz
  obtain ⟨a, cap, rfl, -, -, -⟩ := hv.pars
  clear hv hz
  rcases hc with ⟨hn, hx⟩ | ⟨hn, hx⟩
  all_goals
    have HX := Hd.mk hx
    clear hx
    go_enter Try.func4, Try.ntmps4
    go_wp2_with fail
    try rw [← HX.out]
    refine (few8_any _ ps _ HV.out HZ.out).mono ?_
    rintro e w1 ⟨ok, rfl, hb1, hok⟩
    have HB1 := Hd.mk hb1
    have HOK := Hd.mk hok
    clear hb1 hok
    cases ok
    · go_wp2_with fail
      refine (lives8_any _).mono ?_
      rintro e w4 ⟨rfl, hb4⟩
      go_wp2_with fail
      go_ret
      exact ⟨rfl, below_thn HB1.out hb4⟩
    · have hle := (HOK.out rfl).1
      have HSM := Hd.mk (show ∀ p ∈ ps, p.1.size ≤ 1000 ∧ p.2.size ≤ 1000 from fun p hp => by have := (HOK.out rfl).2 p hp; omega)
      go_wp2_with fail
      try rw [← HX.out]
      refine (print_at x _ ps _ (HV.out.below HB1.out) (by omega) HSM.out (by omega)).mono ?_
      rintro e w2 ⟨rfl, hb2⟩
      have HB2 := Hd.mk (below_thn HB1.out hb2)
      clear hb2
      go_wp2_with fail
      try rw [← HX.out]
      refine (ref_print_at x _ ps _ (HV.out.below HB2.out) (by omega) HSM.out (by omega)).mono ?_
      rintro e w3 ⟨rfl, hb3⟩
      have HB3 := Hd.mk (below_thn HB2.out hb3)
      clear hb3
      go_wp2_with fail
      refine (lives8_any _).mono ?_
      rintro e w4 ⟨rfl, hb4⟩
      go_wp2_with fail
      go_ret
      exact ⟨rfl, below_thn HB3.out hb4⟩
theorem par_of {P : Program} {w : World} {t ts : TypeId} {fs : Array Field} {E : List Value} (ht : P.underlying t = some (.struct fs)) (hs : P.underlying ts = some .string) (hc : P.cellsOf t = 2) (hc1 : P.cellsOf ts = 1)
    (h0 : ∃ f, fs[0]? = some f ∧ f.type = ts ∧ f.offset = 0) (h1 : ∃ f, fs[1]? = some f ∧ f.type = ts ∧ f.offset = 1) (h : Rdb P w t E) : ∃ p : Par, E = parC p ∧ (p.1.size ≤ maxLen ∧ p.2.size ≤ maxLen) := by
  obtain ⟨hl, hf⟩ := h.struct ht
  obtain ⟨f0, e0, t0, o0⟩ := h0
  obtain ⟨f1, e1, t1, o1⟩ := h1
  have g0 := hf 0 f0 e0
  have g1 := hf 1 f1 e1
  rw [t0, o0, hc1] at g0
  rw [t1, o1, hc1] at g1
  obtain ⟨s0, k0, z0⟩ := g0.str hs
  obtain ⟨s1, k1, z1⟩ := g1.str hs
  rw [hc] at hl
  match E, hl with
  | [x, y], _ =>
    simp at k0 k1
    exact ⟨(s0, s1), by simp [parC, k0, k1], z0, z1⟩
theorem Try.fcellsPar : Try.prog.cellsOf 49 = 2 := by kernel_rfl
theorem Try.fcellsStr : Try.prog.cellsOf 9 = 1 := by kernel_rfl
theorem pprint_arg (v0 v1 : Value) (w : World) (h0 : Arg Try.prog w 9 v0) (h1 : Arg Try.prog w 39 v1) :
    Calls Try.prog 4 #[v0, v1] w fun e w' => e = .returned (.bool true) ∧ Below w.heap.size w w' := by
  obtain ⟨s, rfl, hs⟩ := h0.str Try.underlying9
  obtain ⟨ps, hv, hz⟩ := h1.list (f := parC) (Q := fun p => p.1.size ≤ maxLen ∧ p.2.size ≤ maxLen) Try.underlying39 Try.fcellsPar (by omega) fun E hE => par_of Try.underlying49 Try.underlying9 Try.fcellsPar Try.fcellsStr ⟨_, rfl, rfl, rfl⟩ ⟨_, rfl, rfl, rfl⟩ hE
  obtain ⟨x, hx⟩ := cut_any 60 s
  exact pprint_core s x hx hs v1 ps w hv hz
end Go.Proofs.Ytjocmjmfkgogiaa
