/- By whom a message came (layer 20): hops come back from their text; what was appended is one hop more; plain facts. -/
import Derived.Test.YtkfpioadimkogaaDoorVai
import Derived.Test.YtkfpioadimkogaaDoorSp
namespace Go.Proofs.YtkfpioadimkogaaDoor
open Go.RowKit
set_option linter.unusedVariables false
set_option linter.unusedSimpArgs false

theorem preN_app {P : Nat → Bool} {a b : ByteArray} (h : ∀ j, j < a.size → P (bt a j) = true) (hb : b.size = 0 ∨ P (bt b 0) = false) : preN P (a ++ b) = a.size := by
  have hz : (a ++ b).size = a.size + b.size := ByteArray.size_append ..
  refine preN_of (by omega) (fun j hj => by rw [app_bt a b j hj]; exact h j hj) ?_
  by_cases h0 : b.size = 0
  · left; omega
  · right
    refine ⟨by omega, ?_⟩
    have := app_bt2 a b 0 (by omega)
    rw [Nat.add_zero] at this
    rw [this]
    exact hb.resolve_left h0
theorem upB_app (a b : ByteArray) : upB (a ++ b) a.size = a := ba_ext (by rw [upB_list, cat_app, ba_size, List.take_left])
theorem fromB_app (a b : ByteArray) : fromB (a ++ b) a.size = b := ba_ext (by rw [fromB_list, cat_app, ba_size, List.drop_left])
theorem app_none (a b : ByteArray) (h : b.size = 0) : a ++ b = a := ba_ext (by rw [cat_app, show b.data.toList = [] from List.length_eq_zero_iff.1 (by rw [← ba_size]; exact h), List.append_nil])
def sp32 : ByteArray := ⟨#[32]⟩
/-- A text of a version, a blank, and what is behind. -/
theorem va_front {V X : ByteArray} (hv : ∀ j, j < V.size → vaNB (bt V j) = true) (hx : X.size = 0 ∨ blankN (bt X 0) = false) :
    vaV (V ++ (sp32 ++ X)) = V ∧ vaGap (V ++ (sp32 ++ X)) = 1 ∧ vaL (V ++ (sp32 ++ X)) = X := by
  have e0 : bt (sp32 ++ X) 0 = 32 := by rw [app_bt sp32 X 0 (by decide)]; rfl
  have e1 : preN vaNB (V ++ (sp32 ++ X)) = V.size := preN_app hv (.inr (by rw [e0]; decide))
  have e2 : fromB (V ++ (sp32 ++ X)) V.size = sp32 ++ X := fromB_app _ _
  have e3 : preN blankN (sp32 ++ X) = 1 := preN_app (a := sp32) (fun j hj => by
    have : j = 0 := by have : sp32.size = 1 := rfl; omega
    subst this; decide) hx
  have e4 : fromB (sp32 ++ X) 1 = X := fromB_app sp32 X
  refine ⟨by unfold vaV; rw [e1, upB_app], by unfold vaGap; rw [e1, e2, e3], ?_⟩
  unfold vaL vaGap
  rw [e1, e2, e3, e4]
/-- .. whom, and a comment. -/
theorem va_rest {B C : ByteArray} (hb : ∀ j, j < B.size → vaNB (bt B j) = true) (hc : blankN (bt C 0) = false) : byB (B ++ (sp32 ++ C)) = B ∧ cmB (B ++ (sp32 ++ C)) = C ∧ (tlB (B ++ (sp32 ++ C))).size ≠ 0 := by
  have e0 : bt (sp32 ++ C) 0 = 32 := by rw [app_bt sp32 C 0 (by decide)]; rfl
  have e1 : preN vaNB (B ++ (sp32 ++ C)) = B.size := preN_app hb (.inr (by rw [e0]; decide))
  have e2 : fromB (B ++ (sp32 ++ C)) B.size = sp32 ++ C := fromB_app _ _
  have e3 : preN blankN (sp32 ++ C) = 1 := preN_app (a := sp32) (fun j hj => by
    have : j = 0 := by have : sp32.size = 1 := rfl; omega
    subst this; decide) (.inr hc)
  have e4 : fromB (sp32 ++ C) 1 = C := fromB_app sp32 C
  refine ⟨by unfold byB; rw [e1, upB_app], by unfold cmB tlB; rw [e1, e2, e3, e4], ?_⟩
  unfold tlB
  rw [e1, e2, ByteArray.size_append]
  show 1 + C.size ≠ 0
  omega
theorem va_alone {B : ByteArray} (hb : ∀ j, j < B.size → vaNB (bt B j) = true) : byB B = B ∧ cmB B = ⟨#[]⟩ ∧ (tlB B).size = 0 := by
  have e1 : preN vaNB B = B.size := preN_of (Nat.le_refl _) hb (.inl rfl)
  have e2 : byB B = B := by unfold byB; rw [e1, upB_all]
  have e3 : (tlB B).size = 0 := by rw [tlB_size, e1]; omega
  exact ⟨e2, cm_none e3, e3⟩
/-- What may be a hop. -/
structure HopOk (V B C : ByteArray) : Prop where
  v : ∀ j, j < V.size → vaNB (bt V j) = true
  ver : vaVer V = true
  b : ∀ j, j < B.size → vaNB (bt B j) = true
  b0 : 0 < B.size
  pl : vaPl B = true
  c : C.size = 0 ∨ cloB C = true
theorem vaTx_parts (V B C : ByteArray) : vaTx V B C = if C.size = 0 then V ++ (sp32 ++ B) else V ++ (sp32 ++ (B ++ (sp32 ++ C))) := by
  unfold vaTx
  split
  · exact app3 _ _ _
  · rw [app3, app3, app3]
    refine ba_ext ?_
    simp only [cat_app, List.append_assoc]
    rfl
theorem HopOk.back {V B C : ByteArray} (h : HopOk V B C) : vaR (vaTx V B C) = (V, B, C) ∧ vaE (vaTx V B C) = 0 := by
  have hb0 : blankN (bt B 0) = false := by
    have := h.b 0 h.b0
    unfold vaNB at this
    simpa using this
  have hbx : ∀ X, blankN (bt (B ++ X) 0) = false := fun X => by rw [app_bt B X 0 h.b0]; exact hb0
  by_cases hc : C.size = 0
  · have e : vaTx V B C = V ++ (sp32 ++ B) := by rw [vaTx_parts, if_pos hc]
    obtain ⟨f1, f2, f3⟩ := va_front h.v (X := B) (.inr hb0)
    obtain ⟨g1, g2, g3⟩ := va_alone h.b
    have hc2 : C = ⟨#[]⟩ := hs_emp (by omega)
    rw [e]
    have h0 : 0 < (V ++ (sp32 ++ B)).size := by rw [ByteArray.size_append, ByteArray.size_append]; have := h.b0; omega
    have := va_good h0 (by unfold vaOk1; rw [f1, f2, h.ver]; rfl) (by rw [f3]; unfold rsB; rw [g1, h.pl, decide_eq_true g3, Bool.true_or]; rfl)
    rw [f1, f3, g1, g2] at this
    rw [hc2]; exact this
  · have hcl := h.c.resolve_left hc
    have hc0 : blankN (bt C 0) = false := by
      unfold cloB at hcl
      rw [Bool.and_eq_true, Bool.and_eq_true, beq_iff_eq] at hcl
      rw [hcl.2.1]; rfl
    have e : vaTx V B C = V ++ (sp32 ++ (B ++ (sp32 ++ C))) := by rw [vaTx_parts, if_neg hc]
    obtain ⟨f1, f2, f3⟩ := va_front h.v (X := B ++ (sp32 ++ C)) (.inr (hbx _))
    obtain ⟨g1, g2, g3⟩ := va_rest h.b hc0
    rw [e]
    have h0 : 0 < (V ++ (sp32 ++ (B ++ (sp32 ++ C)))).size := by rw [ByteArray.size_append, ByteArray.size_append, ByteArray.size_append]; have := h.b0; omega
    have := va_good h0 (by unfold vaOk1; rw [f1, f2, h.ver]; rfl) (by rw [f3]; unfold rsB; rw [g1, g2, h.pl, hcl, Bool.or_true]; rfl)
    rw [f1, f3, g1, g2] at this
    exact this
theorem up_all {P : Nat → Bool} {s : ByteArray} : ∀ j, j < (upB s (preN P s)).size → P (bt (upB s (preN P s)) j) = true := fun j hj => by
  have hl := preN_le P s
  rw [upB_size] at hj
  rw [upB_bt s _ j (by omega) hl]
  exact preN_in (by omega)
theorem vaPl_pos {B : ByteArray} (h : vaPl B = true) : 0 < B.size := by
  unfold vaPl at h
  rw [Bool.or_eq_true, beq_iff_eq] at h
  rcases h with h | h
  · exact (tok_iff.1 h).1
  · exact (hsE_named h).1
theorem vaE_zero {s : ByteArray} (h : vaE s = 0) : 0 < s.size ∧ vaOk s = true := by
  unfold vaE at h
  split at h
  · cases h
  · split at h
    · exact ⟨by omega, by assumption⟩
    · cases h
/-- P20.3: a hop that is read comes back from its text. -/
theorem va_hop {s : ByteArray} (h : vaE s = 0) : HopOk (vaR s).1 (vaR s).2.1 (vaR s).2.2 := by
  obtain ⟨h0, hk⟩ := vaE_zero h
  have hk2 := hk
  rw [vaOk_split, Bool.and_eq_true] at hk2
  obtain ⟨k1, k2⟩ := hk2
  unfold vaOk1 at k1
  rw [Bool.and_eq_true] at k1
  unfold rsB at k2
  rw [Bool.and_eq_true, Bool.or_eq_true, decide_eq_true_eq] at k2
  rw [(va_good h0 (by unfold vaOk1; rw [k1.1, k1.2]; rfl) (by unfold rsB; rw [k2.1]; cases hq : cloB (cmB (vaL s)) <;> simp_all)).1]
  exact ⟨up_all, k1.1, up_all, vaPl_pos k2.1, k2.1, k2.2.elim (fun q => .inl (by rw [cm_none q]; rfl)) .inr⟩
/-- A token is a hop's name. -/
theorem tok_nb : ∀ n, n < 256 → tcharB n = true → vaNB n = true := by decide +kernel
theorem tok_hop {V nm : ByteArray} (hv : ∀ j, j < V.size → vaNB (bt V j) = true) (hver : vaVer V = true) (ht : tokenB nm = true) : HopOk V nm ⟨#[]⟩ := by
  obtain ⟨t1, t2⟩ := tok_iff.1 ht
  exact ⟨hv, hver, fun j hj => tok_nb _ (bt_lt nm j) (t2 j hj), t1, by unfold vaPl; rw [ht]; rfl, .inl rfl⟩
theorem v10_ok : (∀ j, j < (⟨#[49, 46, 48]⟩ : ByteArray).size → vaNB (bt ⟨#[49, 46, 48]⟩ j) = true) ∧ vaVer ⟨#[49, 46, 48]⟩ = true := ⟨by decide +kernel, by decide +kernel⟩
theorem v11_ok : (∀ j, j < (⟨#[49, 46, 49]⟩ : ByteArray).size → vaNB (bt ⟨#[49, 46, 49]⟩ j) = true) ∧ vaVer ⟨#[49, 46, 49]⟩ = true := ⟨by decide +kernel, by decide +kernel⟩
theorem apV_hop (m : Int) {nm : ByteArray} (ht : tokenB nm = true) : vaE (apV m nm) = 0 ∧ (vaR (apV m nm)).2.1 = nm := by
  unfold apV
  split
  · rw [← vaTx_v1]
    obtain ⟨a, b⟩ := (tok_hop v11_ok.1 v11_ok.2 ht).back
    exact ⟨b, by rw [a]⟩
  · rw [← vaTx_v0]
    obtain ⟨a, b⟩ := (tok_hop v10_ok.1 v10_ok.2 ht).back
    exact ⟨b, by rw [a]⟩
/-! ### The element behind -/
def Pln (e : List UInt8) : Prop := ∀ c ∈ e, c.toNat ≠ 34 ∧ c.toNat ≠ 40 ∧ c.toNat ≠ 44
theorem st3_pln {n : Nat} (h1 : n ≠ 34) (h2 : n ≠ 40) : st3 op3 n = op3 := by
  show (seeQ false false 0 n, seeP false false 0 n, seeD false false 0 n) = (false, false, 0)
  have a : seeQ false false 0 n = false := by unfold seeQ; simp [h1]
  have b : seeP false false 0 n = false := by unfold seeP; simp
  have c : seeD false false 0 n = 0 := by unfold seeD; simp [h1, h2]
  rw [a, b, c]
theorem sp_pln : ∀ (e cur : List UInt8), Pln e → sp op3 cur e = ([cur ++ e], op3)
  | [], cur, _ => by rw [sp, List.append_nil]
  | c :: e, cur, h => by
    obtain ⟨h1, h2, h3⟩ := h c (by simp)
    rw [sp, st3_pln h1 h2, if_pos (.inr h3), sp_pln e (cur ++ [c]) (fun d hd => h d (by simp [hd])), List.append_assoc]
    rfl
theorem somP_one {e : List UInt8} (ht : trimL e = e) (hn : e ≠ []) : somP [e] = [⟨e.toArray⟩] := by
  have := somP_cons e [] (by rw [ht]; exact hn)
  rw [this, ht]; rfl
/-- A plain element alone. -/
theorem spl_alone {s : ByteArray} (hp : Pln s.data.toList) (ht : trimL s.data.toList = s.data.toList) (hn : s.data.toList ≠ []) : splB s = true ∧ splL s = [s] := by
  obtain ⟨s1, s2⟩ := spl_sp s
  rw [sp_pln _ _ hp, List.nil_append] at s1 s2
  have hb : splB s = true := by rw [s1]; rfl
  rw [if_pos hb] at s2
  refine ⟨hb, ?_⟩
  rw [s2]
  exact somP_one ht hn
/-- A plain element behind others. -/
theorem spl_snoc {s v e : ByteArray} (h : s.data.toList = v.data.toList ++ (44 :: 32 :: e.data.toList)) (hv : splB v = true) (hp : Pln e.data.toList) (ht : trimL e.data.toList = e.data.toList) (hn : e.data.toList ≠ []) :
    splB s = true ∧ splL s = splL v ++ [e] := by
  obtain ⟨v1, v2⟩ := spl_sp v
  obtain ⟨s1, s2⟩ := spl_sp s
  rw [if_pos hv] at v2
  obtain ⟨I, l, y, h1, h2⟩ := sp_app v.data.toList (44 :: 32 :: e.data.toList) op3 []
  have hy : y = op3 := by
    refine inv3_open ?_ ?_
    · have := sp_inv v.data.toList op3 [] (fun e => by cases e)
      rw [h1] at this
      exact this
    · rw [h1, hv] at v1
      simpa using v1.symm
  subst hy
  have e1 : sp op3 l (44 :: 32 :: e.data.toList) = (l :: (sp op3 [32] e.data.toList).1, (sp op3 [32] e.data.toList).2) := rfl
  rw [sp_pln _ _ hp] at e1
  rw [h, h2, e1] at s1 s2
  rw [h1] at v2
  have hb : splB s = true := by rw [s1]; rfl
  rw [if_pos hb] at s2
  refine ⟨hb, ?_⟩
  dsimp only at s2 v2
  rw [s2, v2]
  have e2 : I ++ (l :: [[32] ++ e.data.toList]) = (I ++ [l]) ++ [32 :: e.data.toList] := by simp
  rw [e2, somP_app]
  congr 1
  have := somP_cons (32 :: e.data.toList) [] (by rw [trimL_blank, ht]; exact hn)
  rw [this, trimL_blank, ht]; rfl
/-! ### What was appended -/
theorem apV_list (m : Int) (nm : ByteArray) : ∃ d : UInt8, (d = 49 ∨ d = 48) ∧ (apV m nm).data.toList = 49 :: 46 :: d :: 32 :: nm.data.toList := by
  unfold apV
  split
  · exact ⟨49, .inl rfl, by rw [cat_app]; rfl⟩
  · exact ⟨48, .inr rfl, by rw [cat_app]; rfl⟩
theorem tok_pl : ∀ n, n < 256 → tcharB n = true → n ≠ 34 ∧ n ≠ 40 ∧ n ≠ 44 ∧ blankN n = false := by decide +kernel
theorem tok_mem {nm : ByteArray} (ht : tokenB nm = true) {c : UInt8} (hc : c ∈ nm.data.toList) : tcharB c.toNat = true := by
  obtain ⟨j, hj, rfl⟩ := List.getElem_of_mem hc
  have hj2 : j < nm.size := by rw [ba_size]; exact hj
  rw [bt_list nm j hj2]
  exact (tok_iff.1 ht).2 j hj2
theorem apV_pln (m : Int) {nm : ByteArray} (ht : tokenB nm = true) : Pln (apV m nm).data.toList := by
  obtain ⟨d, hd, e⟩ := apV_list m nm
  rw [e]
  intro c hc
  simp at hc
  rcases hc with rfl | rfl | rfl | rfl | hc
  · decide
  · decide
  · rcases hd with rfl | rfl <;> decide
  · decide
  · have := tok_pl _ (UInt8.toNat_lt c) (tok_mem ht (by simpa using hc))
    exact ⟨this.1, this.2.1, this.2.2.1⟩
theorem apV_ne (m : Int) (nm : ByteArray) : (apV m nm).data.toList ≠ [] := by
  obtain ⟨d, hd, e⟩ := apV_list m nm
  rw [e]; simp
theorem apV_trim (m : Int) {nm : ByteArray} (ht : tokenB nm = true) : trimL (apV m nm).data.toList = (apV m nm).data.toList := by
  refine trimL_tidy _ ?_
  obtain ⟨d, hd, e⟩ := apV_list m nm
  rw [e]
  have h0 := (tok_iff.1 ht).1
  have hne : nm.data.toList ≠ [] := fun q => by rw [ba_size, q] at h0; cases h0
  rcases List.eq_nil_or_concat nm.data.toList with q | ⟨r, c, q⟩
  · exact absurd q hne
  · rw [List.concat_eq_append] at q
    refine .inr ⟨⟨49, _, rfl, by decide⟩, 49 :: 46 :: d :: 32 :: r, c, by rw [q]; rfl, ?_⟩
    exact (tok_pl _ (UInt8.toNat_lt c) (tok_mem ht (by rw [q]; simp))).2.2.2
theorem nmVia_self : foldB nmVia nmVia = true := by decide +kernel
theorem hAll_via (l : List Fld) (m : Int) (nm : ByteArray) : hAll (apL l m nm) nmVia = hAll l nmVia ++ [apV m nm] := by
  unfold apL hAll
  rw [List.filter_append, List.map_append]
  congr 1
  rw [List.filter_cons, nmVia_self]
  rfl
theorem via_spl (l : List Fld) (m : Int) {nm : ByteArray} (ht : tokenB nm = true) (hs : splB (viaS l) = true) : splL (viaS (apL l m nm)) = splL (viaS l) ++ [apV m nm] := by
  unfold viaS at *
  rw [hAll_via]
  by_cases hA : hAll l nmVia = []
  · rw [hA, List.nil_append, ← hJoin_zero]
    have e : (⟨#[]⟩ : ByteArray) ++ apV m nm = apV m nm := ba_ext (by rw [cat_app]; rfl)
    rw [e, (spl_alone (apV_pln m ht) (apV_trim m ht) (apV_ne m nm)).2]
    have : splL (hJoin []) = [] := by decide +kernel
    rw [this]; rfl
  · rw [hJoin_snoc _ _ hA]
    exact (spl_snoc (v := hJoin (hAll l nmVia)) (e := apV m nm) (by rw [cat_app, cat_app, List.append_assoc]; rfl) hs (apV_pln m ht) (apV_trim m ht) (apV_ne m nm)).2
theorem via_more (l : List Fld) (m : Int) {nm : ByteArray} (ht : tokenB nm = true) (hs : splB (viaS l) = true) : viaL (apL l m nm) = viaL l ++ [vaR (apV m nm)] := by
  unfold viaL hops
  rw [via_spl l m ht hs]
  unfold hopL
  rw [List.take_length, List.take_length, List.filter_append, List.map_append]
  congr 1
  rw [List.filter_cons, (apV_hop m ht).1]
  rfl
theorem via_seen (l : List Fld) (m : Int) {nm : ByteArray} (ht : tokenB nm = true) (hs : splB (viaS l) = true) : lpB (lowB nm) (viaL (apL l m nm)) = true := by
  rw [via_more l m ht hs]
  unfold lpB
  rw [List.any_append, Bool.or_eq_true]
  right
  rw [List.any_cons, (apV_hop m ht).2, foldB_low]; rfl
end Go.Proofs.YtkfpioadimkogaaDoor
