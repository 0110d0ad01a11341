/- Words with parameters: lists that are read; Same; Print (layer 8). -/
import Derived.Test.YtjocmjmfkgogiaaPrk
namespace Go.Proofs.Ytjocmjmfkgogiaa
open Go.RowKit
set_option linter.unusedVariables false
set_option linter.unusedSimpArgs false

/-- The slice v holds the parameters ps. -/
def RdP (w : World) (v : Value) (ps : List Par) : Prop :=
  (v = .slice none 0 0 ∧ ps = []) ∨ ∃ g cap, v = .slice (some ⟨g, 0, none⟩) ps.length cap ∧ ps.length ≤ cap ∧ g < w.heap.size ∧
    ∀ (j : Nat) (h : j < ps.length), w.cell? ⟨g, j * 2, none⟩ = some (.string ps[j].1) ∧ w.cell? ⟨g, j * 2 + 1, none⟩ = some (.string ps[j].2)
theorem RdP.below {w w' : World} {v : Value} {ps : List Par} (h : RdP w v ps) (hb : Below w.heap.size w w') : RdP w' v ps := by
  rcases h with h | ⟨g, cap, h1, h2, h3, h4⟩
  · exact .inl h
  · exact .inr ⟨g, cap, h1, h2, Nat.lt_of_lt_of_le h3 hb.size, fun j hj => by rw [(bcell hb).1 g _ h3, (bcell hb).1 g _ h3]; exact h4 j hj⟩
theorem RdP.of_own {w : World} {B : Nat} {e : TypeId} {v : Value} {ps : List Par} (h : w.ownsRow B e 2 v ps.length (pcells ps)) : RdP w v ps := by
  rcases h.2 with ⟨h1, h2⟩ | ⟨g, cap, cur, h1, hb, hh, hn, hc, hr⟩
  · exact .inl ⟨h1, List.length_eq_zero_iff.1 h2⟩
  · have hl := (h.lt g (by rw [h1]; rfl)).2
    refine .inr ⟨g, cap, h1, hn, hl, fun j hj => ?_⟩
    obtain ⟨q1, q2⟩ := pcells_at ps j hj
    have c := h.cells (g := g) (by rw [h1]; rfl)
    have d1 := c _ _ q1
    have d2 := c _ _ q2
    rw [Addr.add_lit] at d1 d2
    exact ⟨by simpa using d1, by simpa using d2⟩

set_option maxRecDepth 100000 in
set_option maxHeartbeats 4000000 in
theorem same_eq (v1 v2 : Value) (ps : List Par) (w : World) (h1 : RdP w v1 ps) (h2 : RdP w v2 ps) (hl : ps.length ≤ 1000000) :
    Calls Try.prog 32 #[v1, v2] w fun e w' => e = .returned (.bool true) ∧ Below w.heap.size w w' := by
  rcases h1 with ⟨rfl, rfl⟩ | ⟨g, cap, rfl, hcap, hg, hc⟩
  · have hv : ∃ a c, v2 = .slice a 0 c := by
      rcases h2 with ⟨h, _⟩ | ⟨g, cap, h, _⟩
      · exact ⟨_, _, h⟩
      · exact ⟨_, _, h⟩
    obtain ⟨a, c, rfl⟩ := hv
    clear h2
    go_enter Try.func32, Try.ntmps32
    go_wp2_with fail
    go_loop [5] (fun i => i = .int .i64 0) (fun i => 0)
    case atStart => rfl
    case round =>
      obtain rfl := hrel
      go_wp2_with fail
      go_ret
      exact ⟨rfl, Below.refl _ _⟩
  · have hv : (ps = [] ∧ v2 = .slice none 0 0) ∨ ∃ g' cap', v2 = .slice (some ⟨g', 0, none⟩) ps.length cap' ∧ ps.length ≤ cap' ∧ ∀ (j : Nat) (h : j < ps.length), w.cell? ⟨g', j * 2, none⟩ = some (.string ps[j].1) ∧ w.cell? ⟨g', j * 2 + 1, none⟩ = some (.string ps[j].2) := by
      rcases h2 with ⟨h, h'⟩ | ⟨g', cap', h, h', _, h''⟩
      · exact .inl ⟨h', h⟩
      · exact .inr ⟨g', cap', h, h', h''⟩
    rcases hv with ⟨rfl, rfl⟩ | ⟨g', cap', rfl, hcap', hc'⟩
    · clear h2 hc
      go_enter Try.func32, Try.ntmps32
      go_wp2_with fail
      go_loop [5] (fun i => i = .int .i64 0) (fun i => 0)
      case atStart => rfl
      case round =>
        obtain rfl := hrel
        go_wp2_with fail
        go_ret
        exact ⟨rfl, Below.refl _ _⟩
    · have HC := Hd.mk hc
      have HC' := Hd.mk hc'
      clear h2 hc hc'
      go_enter Try.func32, Try.ntmps32
      go_wp2_with fail
      go_loopw [5] (fun i wr => ∃ k : Nat, k ≤ ps.length ∧ i = .int .i64 k ∧ ∃ m, wr = w.drewN m) (fun i _ => ps.length - (intOf i).toNat)
      case atStart => exact ⟨0, by omega, rfl, 0, rfl⟩
      case round =>
        obtain ⟨k, hk, rfl, m, rfl⟩ := hrel
        by_cases hlt : k < ps.length
        · obtain ⟨c1, c2⟩ := HC.out k hlt
          obtain ⟨c3, c4⟩ := HC'.out k hlt
          have q0 : (0 : Int) ≤ (k : Int) := by omega
          have q1 : (k : Int) < (ps.length : Int) := by omega
          go_wp2_with fail
          go_quiet (fail)
          go_wp2_with fail
          go_roundw
          case rel => exact ⟨k + 1, by omega, by go_num, _, rfl⟩
          case measure => simp [intOf]; omega
        · go_wp2_with fail
          go_ret
          exact ⟨rfl, below_drewN _ _⟩

/-! ### Print -/
def onePar (p : Par) : List UInt8 := 59 :: p.1.data.toList ++ (if p.2.size = 0 then [] else 61 :: (quoteS p.2).data.toList)
def parsT (l : List Par) : List UInt8 := l.flatMap onePar
theorem parsT_snoc (l : List Par) (p : Par) : parsT (l ++ [p]) = parsT l ++ onePar p := by simp [parsT]
def parGood (p : Par) : Bool := tokenB p.1 && quoteOk p.2
def prtOk (nm : ByteArray) (l : List Par) : Bool := tokenB nm && l.all parGood
def prtS (nm : ByteArray) (l : List Par) : ByteArray := if prtOk nm l then ⟨(nm.data.toList ++ parsT l).toArray⟩ else ⟨#[]⟩
theorem onePar_len {p : Par} (h1 : p.1.size ≤ 1000) (h2 : p.2.size ≤ 1000) : (onePar p).length ≤ 4000 := by
  have := quoteS_len p.2
  unfold onePar
  split
  · have e1 := ba_size p.1
    simp at e1 ⊢
    omega
  · simp
    have e1 := ba_size p.1
    have e2 := ba_size (quoteS p.2)
    simp at e1 e2
    omega

theorem prt_bad {nm : ByteArray} {ps : List Par} {k : Nat} (h : k < ps.length) (hb : parGood ps[k] = false) : prtOk nm ps = false ∧ prtS nm ps = ⟨#[]⟩ := by
  have h1 : prtOk nm ps = false := by
    unfold prtOk
    rw [Bool.and_eq_false_iff]
    right
    rw [List.all_eq_false]
    exact ⟨ps[k], List.getElem_mem h, by rw [hb]; decide⟩
  exact ⟨h1, by unfold prtS; rw [h1]; rfl⟩
theorem prt_noname {nm : ByteArray} {ps : List Par} (h : tokenB nm = false) : prtOk nm ps = false ∧ prtS nm ps = ⟨#[]⟩ := by
  have h1 : prtOk nm ps = false := by unfold prtOk; rw [h]; rfl
  exact ⟨h1, by unfold prtS; rw [h1]; rfl⟩
theorem prt_good {nm x : ByteArray} {ps : List Par} (h : tokenB nm = true) (hg : ps.all parGood = true) (hx : x.data.toList = nm.data.toList ++ parsT ps) : prtOk nm ps = true ∧ prtS nm ps = x := by
  have h1 : prtOk nm ps = true := by unfold prtOk; rw [h, hg]; rfl
  exact ⟨h1, by unfold prtS; rw [h1]; exact (ba_eq x _ hx).symm⟩
theorem take_all {ps : List Par} {k : Nat} (h : k < ps.length) (ha : (ps.take k).all parGood = true) (hg : parGood ps[k] = true) : (ps.take (k + 1)).all parGood = true := by
  rw [List.take_succ_eq_append_getElem h, List.all_append, ha]; simp [hg]
theorem parsT_take {ps : List Par} {k : Nat} (h : k < ps.length) : parsT (ps.take (k + 1)) = parsT (ps.take k) ++ onePar ps[k] := by
  rw [List.take_succ_eq_append_getElem h, parsT_snoc]

set_option maxRecDepth 100000 in
set_option maxHeartbeats 4000000 in
theorem print_any (nm : ByteArray) (v : Value) (ps : List Par) (w : World) (hv : RdP w v ps) (hn : nm.size ≤ 1000) (hp : ∀ p ∈ ps, p.1.size ≤ 1000 ∧ p.2.size ≤ 1000) (hl : ps.length ≤ 1000) :
    Calls Try.prog 28 #[.string nm, v] w fun e w' => e = .returned (.tuple #[.string (prtS nm ps), .bool (prtOk nm ps)]) ∧ Below w.heap.size w w' := by
  have HV := Hd.mk hv
  have HP := Hd.mk hp
  have hform : ∃ a cap, v = .slice a ps.length cap ∧ (0 < ps.length → ∃ g, a = some ⟨g, 0, none⟩ ∧ ps.length ≤ cap) := by
    rcases hv with ⟨rfl, rfl⟩ | ⟨g, cap, rfl, h, _⟩
    · exact ⟨none, 0, rfl, fun h => by simp at h⟩
    · exact ⟨_, cap, rfl, fun _ => ⟨g, rfl, h⟩⟩
  obtain ⟨a, cap, rfl, hform⟩ := hform
  clear hv hp
  have HF := Hd.mk hform
  clear hform
  cases ht : tokenB nm
  · have HT := Hd.mk ht
    have HQ := Hd.mk (prt_noname (ps := ps) ht)
    clear ht
    go_enter Try.func28, Try.ntmps28
    go_wp2_with fail
    refine (oct_token_any _ _ (by unfold maxLen; omega)).mono ?_
    rintro e w1 ⟨rfl, hb1⟩
    rw [HT.out]
    go_wp2_with fail
    go_ret2
    exact ⟨by rw [HQ.out.1, HQ.out.2]; rfl, hb1⟩
  · have HT := Hd.mk ht
    clear ht
    go_enter Try.func28, Try.ntmps28
    go_wp2_with fail
    refine (oct_token_any _ _ (by unfold maxLen; omega)).mono ?_
    rintro e w1 ⟨rfl, hb1⟩
    rw [HT.out]
    have HB1 := Hd.mk hb1
    clear hb1
    go_wp2_with fail
    go_loopw [6, 16] (fun tx i wr => ∃ (k : Nat) (x : ByteArray), k ≤ ps.length ∧ i = .int .i64 k ∧ tx = .string x ∧ x.size ≤ 1000 + 4000 * k ∧ x.data.toList = nm.data.toList ++ parsT (ps.take k) ∧ (ps.take k).all parGood = true ∧ Below w.heap.size w wr) (fun _ i _ => ps.length - (intOf i).toNat)
    case atStart => exact ⟨0, nm, by omega, rfl, rfl, by omega, by simp [parsT], rfl, HB1.out⟩
    case round =>
      obtain ⟨k, x, hk, rfl, rfl, hxs, hxl, hall, hbel⟩ := hrel
      have HXL := Hd.mk hxl
      have HAL := Hd.mk hall
      have HB := Hd.mk hbel
      have hsz := hbel.size
      clear hxl hall hbel
      by_cases hlt : k < ps.length
      · obtain ⟨g, rfl, hcap⟩ := HF.out (by omega)
        have hrd := HV.out.below HB.out
        have hc : wr.cell? ⟨g, k * 2, none⟩ = some (.string ps[k].1) ∧ wr.cell? ⟨g, k * 2 + 1, none⟩ = some (.string ps[k].2) ∧ g < wr.heap.size := by
          rcases hrd with ⟨h, _⟩ | ⟨g2, c2, h, _, h3, h4⟩
          · simp at h
          · simp at h
            obtain ⟨rfl, rfl⟩ := h
            exact ⟨(h4 k hlt).1, (h4 k hlt).2, h3⟩
        obtain ⟨c1, c2, hgl⟩ := hc
        obtain ⟨hs1, hs2⟩ := HP.out ps[k] (List.getElem_mem hlt)
        have q0 : (0 : Int) ≤ (k : Int) := by omega
        have q1 : (k : Int) < (ps.length : Int) := by omega
        have HTA := Hd.mk (parsT_take hlt)
        have HOL := Hd.mk (onePar_len hs1 hs2)
        have hqs := quoteS_len ps[k].2
        obtain ⟨pa, hpa⟩ : ∃ pa, pa = ps[k].1 := ⟨_, rfl⟩
        obtain ⟨pb, hpb⟩ : ∃ pb, pb = ps[k].2 := ⟨_, rfl⟩
        rw [← hpa] at c1 hs1
        rw [← hpb] at c2 hs2 hqs
        have HPA := Hd.mk hpa
        have HPB := Hd.mk hpb
        have hg : parGood ps[k] = (tokenB pa && quoteOk pb) := by rw [hpa, hpb]; rfl
        have HG := Hd.mk hg
        clear hrd hpa hpb hg
        go_wp2_with fail
        refine (cur_quote _ _ (by omega)).mono ?_
        rintro e w2 ⟨rfl, hb2⟩
        have d1 : w2.cell? ⟨g, k * 2, none⟩ = some (.string pa) := by rw [(bcell hb2).1 g _ hgl]; exact c1
        have d2 : w2.cell? ⟨g, k * 2 + 1, none⟩ = some (.string pb) := by rw [(bcell hb2).1 g _ hgl]; exact c2
        have hgl2 := Nat.lt_of_lt_of_le hgl hb2.size
        have HB2 := Hd.mk (HB.out.trans (hb2.mono hsz))
        have hsz2 := HB2.out.size
        clear hb2 c1 c2
        cases hqo : quoteOk pb
        · have HQ := Hd.mk (prt_bad (nm := nm) hlt (by rw [HG.out, hqo]; simp))
          clear hqo
          go_wp2_with fail
          go_ret2
          exact ⟨by rw [HQ.out.1, HQ.out.2]; rfl, HB2.out⟩
        · have HQO := Hd.mk hqo
          clear hqo
          go_wp2_with fail
          refine (oct_token_any _ _ (by unfold maxLen; omega)).mono ?_
          rintro e w3 ⟨rfl, hb3⟩
          have e1 : w3.cell? ⟨g, k * 2, none⟩ = some (.string pa) := by rw [(bcell hb3).1 g _ hgl2]; exact d1
          have e2 : w3.cell? ⟨g, k * 2 + 1, none⟩ = some (.string pb) := by rw [(bcell hb3).1 g _ hgl2]; exact d2
          have HB3 := Hd.mk (HB2.out.trans (hb3.mono hsz2))
          clear hb3 d1 d2
          cases hta : tokenB pa
          · have HQ := Hd.mk (prt_bad (nm := nm) hlt (by rw [HG.out, hta]; simp))
            clear hta
            go_wp2_with fail
            go_ret2
            exact ⟨by rw [HQ.out.1, HQ.out.2]; rfl, HB3.out⟩
          · have HGD := Hd.mk (show parGood ps[k] = true by rw [HG.out, hta, HQO.out]; rfl)
            clear hta
            by_cases hz : pb.size = 0
            · have hze : pb.toList = [] := tl_of_size hz
              have hnew : (x ++ (⟨#[59]⟩ ++ pa)).data.toList = nm.data.toList ++ parsT (ps.take (k + 1)) := by
                rw [app_list, app_list, HXL.out, HTA.out]
                unfold onePar
                rw [← HPA.out, ← HPB.out, if_pos hz]; simp
              have HN := Hd.mk hnew
              clear hz hnew
              go_wp2_with fail
              go_roundw
              case rel =>
                refine ⟨k + 1, _, by omega, by go_num, rfl, ?_, HN.out, take_all hlt HAL.out HGD.out, HB3.out⟩
                rw [ba_len HN.out, HTA.out, ← List.append_assoc, List.length_append, ← HXL.out, ← ba_size]
                have := HOL.out
                omega
              case measure => simp [intOf]; omega
            · have hze : pb.toList.isEmpty = false := tl_ne_size (by omega)
              have hnew : (x ++ (⟨#[59]⟩ ++ pa) ++ (⟨#[61]⟩ ++ quoteS pb)).data.toList = nm.data.toList ++ parsT (ps.take (k + 1)) := by
                rw [app_list, app_list, app_list, app_list, HXL.out, HTA.out]
                unfold onePar
                rw [← HPA.out, ← HPB.out, if_neg hz]; simp
              have HN := Hd.mk hnew
              clear hz hnew
              go_wp2_with fail
              go_roundw
              case rel =>
                refine ⟨k + 1, _, by omega, by go_num, rfl, ?_, HN.out, take_all hlt HAL.out HGD.out, HB3.out⟩
                rw [ba_len HN.out, HTA.out, ← List.append_assoc, List.length_append, ← HXL.out, ← ba_size]
                have := HOL.out
                omega
              case measure => simp [intOf]; omega
      · have hke : ps.take k = ps := List.take_of_length_le (by omega)
        have HQ := Hd.mk (prt_good (ps := ps) HT.out (by have := HAL.out; rwa [hke] at this) (by rw [HXL.out, hke]))
        clear hke
        go_wp2_with fail
        go_ret2
        exact ⟨by rw [HQ.out.1, HQ.out.2]; rfl, HB.out⟩
end Go.Proofs.Ytjocmjmfkgogiaa
