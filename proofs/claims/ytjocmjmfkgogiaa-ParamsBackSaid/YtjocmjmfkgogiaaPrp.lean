/- Words with parameters: the law ParamsBack (layer 8). -/
import Derived.Test.YtjocmjmfkgogiaaPro
import Derived.Deep.DeepCutAuto
import Derived.Deep.RegionWith
import Derived.Deep.RegionHeld3
namespace Go.Proofs.Ytjocmjmfkgogiaa
open Go.RowKit
set_option linter.unusedVariables false
set_option linter.unusedSimpArgs false

theorem emp0 : (⟨#[]⟩ : ByteArray).size = 0 := rfl
theorem quotedS_sz (x : ByteArray) : (quotedS x).size ≤ quotedN x := by
  unfold quotedS quotedN
  cases h : quotedL x.data.toList with
  | none => exact Nat.le_refl 0
  | some a =>
    obtain ⟨l, n⟩ := a
    simp only
    cases hl : x.data.toList with
    | nil => rw [hl] at h; simp [quotedL] at h
    | cons c r =>
      rw [hl] at h
      simp only [quotedL] at h
      split at h
      · have := qread_bound _ _ _ _ h
        rw [ba_size]; simp at this ⊢; omega
      · cases h
theorem par_sum {x : ByteArray} (h : parOk x = true) : 1 + (parName x).size + (parVal x).size ≤ parEnd x := by
  have h1 : (parName x).size ≤ nameLen x := by unfold parName; rw [lowB_sz, upB_size]; omega
  have h2 : 1 + nameLen x ≤ nameEnd x := by unfold nameEnd nameAt; omega
  have h3 : nameEnd x + 1 ≤ valAt x := by unfold valAt eqAt; omega
  unfold parVal parEnd
  split
  · split
    · rw [upB_size]; omega
    · have := quotedS_sz (fromB x (valAt x)); omega
  · have : (⟨#[]⟩ : ByteArray).size = 0 := rfl
    omega
def totP (l : List Par) : Nat := (l.map fun p => 1 + p.1.size + p.2.size).foldr (· + ·) 0
theorem parsL_tot : ∀ (f : Nat) (x : ByteArray) (l : List Par), parsL f x = some l → totP l ≤ x.size
  | 0, _, _, h => by simp [parsL] at h
  | f + 1, x, l, h => by
    unfold parsL at h
    split at h
    · cases h; simp [totP]
    · split at h
      · rename_i h1
        cases hq : parsL f (fromB x (parEnd x)) with
        | none => rw [hq] at h; simp at h
        | some m =>
          rw [hq] at h
          simp at h
          have ih := parsL_tot f _ m hq
          rw [fromB_size] at ih
          have hs := par_sum h1
          have he := (parEnd_le h1).2
          rw [← h]
          unfold totP at ih ⊢
          simp only [List.map_cons, List.foldr_cons]
          omega
      · cases h
theorem totP_mem {l : List Par} {p : Par} (h : p ∈ l) : 1 + p.1.size + p.2.size ≤ totP l := by
  induction l with
  | nil => simp at h
  | cons q l ih =>
    unfold totP at ih ⊢
    simp only [List.map_cons, List.foldr_cons]
    simp at h
    rcases h with rfl | h
    · omega
    · have := ih h; omega
theorem totP_len (l : List Par) : l.length ≤ totP l := by
  induction l with
  | nil => simp
  | cons q l ih => unfold totP at ih ⊢; simp only [List.map_cons, List.foldr_cons, List.length_cons]; omega
theorem totP_txt (l : List Par) : (parsT l).length ≤ 4 * totP l := by
  induction l with
  | nil => simp [parsT]
  | cons q l ih =>
    have hq := quoteS_len q.2
    have e : parsT (q :: l) = onePar q ++ parsT l := by simp [parsT]
    rw [e, List.length_append]
    have h1 : (onePar q).length ≤ 4 + q.1.size + 2 * q.2.size := by
      unfold onePar
      split
      · simp; omega
      · simp; omega
    unfold totP at ih ⊢
    simp only [List.map_cons, List.foldr_cons]
    omega
theorem prm_tot (s : ByteArray) : totP (prmAll s).2.2 ≤ s.size := by
  unfold prmAll
  split
  · simp [totP]
  · split
    · simp [totP]
    · cases h : parsL (s.size + 1) (fromB s (preN tcharB s)) with
      | none => simp [totP]
      | some l =>
        have := parsL_tot _ _ _ h
        rw [fromB_size] at this
        simp only; omega
theorem prm_nm (s : ByteArray) : (prmAll s).2.1.size ≤ s.size := by
  unfold prmAll
  split
  · simp only; rw [emp0]; omega
  · split
    · simp only; rw [emp0]; omega
    · cases h : parsL (s.size + 1) (fromB s (preN tcharB s)) with
      | none => simp only; rw [emp0]; omega
      | some l => simp only; rw [lowB_sz, upB_size]; omega
theorem prtS_sz (nm : ByteArray) (l : List Par) : (prtS nm l).size ≤ nm.size + 4 * totP l := by
  unfold prtS
  split
  · have := totP_txt l
    rw [ba_size]
    simp only [List.length_append]
    rw [← ba_size nm]
    omega
  · rw [emp0]; omega
theorem few_tot {l : List Par} (hl : l.length ≤ 20) (h : ∀ p ∈ l, p.1.size ≤ 60 ∧ p.2.size ≤ 60) : totP l ≤ 3000 := by
  have : ∀ l : List Par, (∀ p ∈ l, p.1.size ≤ 60 ∧ p.2.size ≤ 60) → totP l ≤ 121 * l.length := by
    intro l
    induction l with
    | nil => simp [totP]
    | cons q l ih =>
      intro h
      have h1 := h q (by simp)
      have h2 := ih fun p hp => h p (by simp [hp])
      unfold totP at h2 ⊢
      simp only [List.map_cons, List.foldr_cons, List.length_cons]
      omega
  have := this l h
  omega
theorem RdQ.of_own {w : World} {B : Nat} {e : TypeId} {v : Value} {ps : List Par} (h : w.ownsRow B e 2 v ps.length (pcells ps)) : RdQ w v ps :=
  RdL.of_own (f := parC) (sz := 2) (B := B) (e := e) (fun _ => rfl) h
theorem rdq_blk {w : World} {a : Option Addr} {n c : Nat} {ps : List Par} (h : RdQ w (.slice a n c) ps) : n = ps.length := by
  obtain ⟨_, _, h1, _⟩ := h
  cases h1; rfl
theorem prm_bad {s : ByteArray} (h : (prmAll s).1 ≠ 0) : (prmAll s).2.1 = ⟨#[]⟩ ∧ (prmAll s).2.2 = [] := by
  unfold prmAll at h ⊢
  split
  · exact ⟨rfl, rfl⟩
  · rename_i h0
    rw [if_neg h0] at h
    split
    · exact ⟨rfl, rfl⟩
    · rename_i h1
      rw [if_neg h1] at h
      cases hq : parsL (s.size + 1) (fromB s (preN tcharB s)) with
      | none => exact ⟨rfl, rfl⟩
      | some l => rw [hq] at h; exact absurd rfl h
theorem own_len8 {w : World} {base : Nat} {e : TypeId} {size n : Nat} {v : Value} {xs : List Value} (h : w.ownsRow base e size v n xs) : ∃ a c, v = .slice a n c := by
  rcases h.2 with ⟨rfl, rfl⟩ | ⟨g, cap, cur, rfl, _⟩
  · exact ⟨_, _, rfl⟩
  · exact ⟨_, _, rfl⟩
set_option maxRecDepth 100000 in
set_option maxHeartbeats 1000000 in
theorem same_at (v1 v2 : Value) (ps : List Par) (w : World) (h1 : RdQ w v1 ps) (h2 : RdQ w v2 ps) (hl : ps.length ≤ 1000000) :
    Calls Try.prog 32 #[v1, v2] w fun e w' => e = .returned (.bool true) ∧ Below w.heap.size w w' := by
  have H1 := Hd.mk h1
  have H2 := Hd.mk h2
  obtain ⟨a1, c1, rfl, m1, -, -⟩ := h1.pars
  obtain ⟨a2, c2, rfl, m2, -, -⟩ := h2.pars
  clear h1 h2
  go_enter Try.func32, Try.ntmps32
  go_wp2_with fail
  go_loopw [5] (fun i wr => ∃ k : Nat, k ≤ ps.length ∧ i = .int .i64 k ∧ ∃ m, wr = w.drewN m) (fun i _ => ps.length - (intOf i).toNat)
  case atStart => exact ⟨0, by omega, rfl, 0, rfl⟩
  case round =>
    obtain ⟨k, hk, rfl, m, rfl⟩ := hrel
    by_cases hlt : k < ps.length
    · obtain ⟨b1, o1, rfl, k1, d1⟩ := rdq_cells H1.out (by omega)
      obtain ⟨b2, o2, rfl, k2, d2⟩ := rdq_cells H2.out (by omega)
      obtain ⟨e1, e2⟩ := d1 k hlt
      obtain ⟨e3, e4⟩ := d2 k hlt
      have q0 : (0 : Int) ≤ (k : Int) := by omega
      have q1 : (k : Int) < (ps.length : Int) := by omega
      clear d1 d2
      go_wp2_with fail
      go_quiet (fail)
      go_wp2_with fail
      go_roundw
      case rel => exact ⟨k + 1, by omega, by go_num, _, rfl⟩
      case measure => simp [intOf]; omega
    · go_wp2_with fail
      go_ret
      exact ⟨rfl, gdrewN _ _⟩
def BMid (w : World) (s0 s2 : Value) (wx : World) : Prop := ∃ x y : ByteArray, s0 = .string x ∧ x.size ≤ 60 ∧ s2 = .string y ∧ y.size ≤ 1000 ∧ Below w.heap.size w wx
set_option maxRecDepth 100000 in
set_option maxHeartbeats 4000000 in
theorem pback_core (s x t y : ByteArray) (hc : Cut 60 s x) (hd : Cut 1000 t y) (hs : s.size ≤ maxLen) (ht : t.size ≤ maxLen) (v : Value) (ps : List Par) (w : World) (hv : RdQ w v ps) (hz : ∀ p ∈ ps, p.1.size ≤ maxLen ∧ p.2.size ≤ maxLen) :
    Calls Try.prog 5 #[.string s, v, .string t] w fun e w' => e = .returned (.bool true) ∧ Below w.heap.size w w' := by
  have hL := hc.le
  have hM := hd.le
  unfold maxLen at hs ht
  have HV := Hd.mk hv
  have HZ := Hd.mk hz
  obtain ⟨a, cap, rfl, hc1, -, -⟩ := hv.pars
  clear hv hz
  go_enter Try.func5, Try.ntmps5
  go_upto_region 1 with fail
  go_cut [0, 2] (BMid w)
  case first =>
    rcases hc with ⟨h1, hx⟩ | ⟨h1, hx⟩
    all_goals
      have HX := Hd.mk hx
      clear hx
      rcases hd with ⟨h2, hy⟩ | ⟨h2, hy⟩
    all_goals
      have HY := Hd.mk hy
      clear hy
      go_quiet (fail)
      go_wp2_with fail
      go_meet
      exact ⟨x, y, by rw [HX.out], hL, by rw [HY.out], hM, gdrewN _ _⟩
  case rest =>
    clear hc hd hs ht hL hM
    obtain ⟨X, Y, rfl, hX, rfl, hY, hbx⟩ := hcut
    have HBX := Hd.mk hbx
    clear hbx
    go_wp2_with fail
    refine (few8_any _ ps _ (HV.out.below HBX.out) HZ.out).mono ?_
    rintro e w1 ⟨ok, rfl, hb1, hok⟩
    have HB1 := Hd.mk (HBX.out.trans (hb1.mono HBX.out.size))
    have HOK := Hd.mk hok
    clear hb1 hok
    cases ok
    · go_wp2_with fail
      refine (lives8_any _).mono ?_
      rintro e w4 ⟨rfl, hb4⟩
      go_wp2_with fail
      go_ret
      exact ⟨rfl, HB1.out.trans (hb4.mono HB1.out.size)⟩
    · have hle := (HOK.out rfl).1
      have HSM := Hd.mk (show ∀ p ∈ ps, p.1.size ≤ 1000 ∧ p.2.size ≤ 1000 from fun p hp => by have := (HOK.out rfl).2 p hp; omega)
      have HTOT := Hd.mk (few_tot hle (HOK.out rfl).2)
      have HFEW := Hd.mk (HOK.out rfl).2
      go_wp2_with fail
      refine (print_at X _ ps _ (HV.out.below HB1.out) (by omega) HSM.out (by omega)).mono ?_
      rintro e w2 ⟨rfl, hb2⟩
      have HB2 := Hd.mk (HB1.out.trans (hb2.mono HB1.out.size))
      clear hb2
      have HPS := Hd.mk (show (prtS X ps).size ≤ 13000 by have := prtS_sz X ps; have := HTOT.out; omega)
      have HBK := Hd.mk (prm_back (nm := X) (l := ps))
      generalize prtS X ps = tx at *
      cases hok : prtOk X ps
      · clear hok
        go_wp2_with fail
        refine (parse_any Y _ (by omega)).mono ?_
        rintro e w6 ⟨v6, rfl, ho6, hb6⟩
        have HB6 := Hd.mk (HB2.out.trans (hb6.mono HB2.out.size))
        by_cases he0 : (prmAll Y).1 = 0
        · have HAG := Hd.mk (prm_again he0)
          have HTT := Hd.mk (prm_tot Y)
          have HNN := Hd.mk (prm_nm Y)
          have HO6 := Hd.mk (RdQ.of_own ho6)
          rw [he0]
          clear ho6 hb6 he0
          generalize (prmAll Y).2.1 = N at *
          generalize (prmAll Y).2.2 = K at *
          obtain ⟨a6, c6, rfl, m6, -, -⟩ := HO6.out.pars
          have hnn : N.size ≤ 1000 := by have := HNN.out; omega
          have HSZ := Hd.mk (show ∀ p ∈ K, p.1.size ≤ 1000 ∧ p.2.size ≤ 1000 from fun p hp => by have := totP_mem hp; have := HTT.out; omega)
          have hkl : K.length ≤ 1000 := by have := totP_len K; have := HTT.out; omega
          have HP7 := Hd.mk (show (prtS N K).size ≤ 13000 by have := prtS_sz N K; have := HTT.out; omega)
          go_wp2_with fail
          refine (print_at N _ K _ HO6.out hnn HSZ.out hkl).mono ?_
          rintro e w7 ⟨rfl, hb7⟩
          rw [HAG.out.1]
          have HB7 := Hd.mk (HB6.out.trans (hb7.mono HB6.out.size))
          have HO7 := Hd.mk (HO6.out.below hb7)
          have HAG2 := Hd.mk HAG.out.2
          clear hb7
          generalize prtS N K = t7 at *
          go_wp2_with fail
          refine (parse_any t7 _ (by have := HP7.out; omega)).mono ?_
          rintro e w8 ⟨v8, rfl, ho8, hb8⟩
          rw [HAG2.out] at ho8 ⊢
          have HO8 := Hd.mk (RdQ.of_own ho8)
          have HB8 := Hd.mk (HB7.out.trans (hb8.mono HB7.out.size))
          have HO78 := Hd.mk (HO7.out.below hb8)
          clear ho8 hb8
          go_wp2_with fail
          refine (same_at _ _ K _ HO8.out HO78.out (by omega)).mono ?_
          rintro e w9 ⟨rfl, hb9⟩
          have HB9 := Hd.mk (HB8.out.trans (hb9.mono HB8.out.size))
          clear hb9
          go_wp2_with fail
          refine (lives8_any _).mono ?_
          rintro e w10 ⟨rfl, hb10⟩
          go_wp2_with fail
          go_ret
          exact ⟨rfl, HB9.out.trans (hb10.mono HB9.out.size)⟩
        · obtain ⟨hne, hke⟩ := prm_bad he0
          rw [hne]
          rw [hke] at ho6
          obtain ⟨a6, c6, rfl⟩ := own_len8 ho6
          have hb1 : ((prmAll Y).1 == 0) = false := by simpa using he0
          have hb2 : ((prmAll Y).1 != 0) = true := by rw [bne, hb1]; rfl
          clear ho6 hb6 he0 hne hke
          go_wp2_with fail
          refine (lives8_any _).mono ?_
          rintro e w10 ⟨rfl, hb10⟩
          go_wp2_with fail
          go_ret
          exact ⟨rfl, HB6.out.trans (hb10.mono HB6.out.size)⟩
      · have HE := Hd.mk (HBK.out hok)
        clear hok
        go_wp2_with fail
        refine (parse_any tx _ (by have := HPS.out; omega)).mono ?_
        rintro e w3 ⟨v3, rfl, ho3, hb3⟩
        rw [HE.out] at ho3 ⊢
        have HO3 := Hd.mk (RdQ.of_own ho3)
        have HB3 := Hd.mk (HB2.out.trans (hb3.mono HB2.out.size))
        clear ho3 hb3
        obtain ⟨a3, c3, rfl, m3, -, -⟩ := HO3.out.pars
        rw [show (ps.map lowP).length = ps.length by simp] at HO3 m3 ⊢
        go_wp2_with fail
        refine (ref_lower_any _ _ (by omega)).mono ?_
        rintro e w4 ⟨rfl, hb4⟩
        have HB4 := Hd.mk (HB3.out.trans (hb4.mono HB3.out.size))
        have HO4 := Hd.mk (HO3.out.below hb4)
        clear hb4
        go_wp2_with fail
        go_loopw [65] (fun i wr => ∃ j : Nat, j ≤ ps.length ∧ i = .int .i64 j ∧ Below w.heap.size w wr ∧ Below w4.heap.size w4 wr) (fun i _ => ps.length - (intOf i).toNat)
        case atStart => exact ⟨0, by omega, rfl, HB4.out, Below.refl _ _⟩
        case round =>
          obtain ⟨j, hj, rfl, hbA, hbB⟩ := hrel
          have HBA := Hd.mk hbA
          have HBB := Hd.mk hbB
          have hwz := hbA.size
          clear hbA hbB
          by_cases hlt : j < ps.length
          · obtain ⟨g, o, rfl, hgl, d0⟩ := rdq_cells (HV.out.below HBA.out) (by omega)
            obtain ⟨e1, e2⟩ := d0 j hlt
            obtain ⟨g3, o3, rfl, hgl3, d3⟩ := rdq_cells (HO4.out.below HBB.out) (by simp; omega)
            obtain ⟨e3, e4⟩ := d3 j (by simpa using hlt)
            rw [List.getElem_map] at e3 e4
            have HSJ := Hd.mk (HFEW.out ps[j] (List.getElem_mem hlt))
            have q0 : (0 : Int) ≤ (j : Int) := by omega
            have q1 : (j : Int) < (ps.length : Int) := by omega
            simp only [lowP] at e3 e4
            generalize ps[j].1 = pa at *
            generalize ps[j].2 = pb at *
            have hpa : pa.size ≤ 60 := HSJ.out.1
            clear d0 d3
            go_wp2_with fail
            go_region_held3 (fun w' => w'.cell? ⟨g, o + j * 2, none⟩ = some (.string pa) ∧ w'.cell? ⟨g, o + j * 2 + 1, none⟩ = some (.string pb) ∧ w'.cell? ⟨g3, o3 + j * 2, none⟩ = some (.string (lowB pa)) ∧ w'.cell? ⟨g3, o3 + j * 2 + 1, none⟩ = some (.string pb))
              ((refine ⟨?_, ?_, ?_, ?_⟩ <;> first | assumption | exact ((gcell hb5).1 g (o + j * 2) hgl).trans e1 | exact ((gcell hb5).1 g (o + j * 2 + 1) hgl).trans e2 | exact ((gcell hb5).1 g3 (o3 + j * 2) hgl3).trans e3 | exact ((gcell hb5).1 g3 (o3 + j * 2 + 1) hgl3).trans e4))
              ((go_at_call 31; refine (ref_lower_any pa _ (by omega)).mono ?_; rintro e w5 ⟨rfl, hb5⟩))
            have HA5 := Hd.mk (HBA.out.drew.trans (hb5.mono hwz))
            have HB5 := Hd.mk (HBB.out.drew.trans (hb5.mono HBB.out.size))
            clear hb5
            go_wp2_with fail
            go_roundw
            case rel => exact ⟨j + 1, by omega, by go_num, HA5.out, HB5.out⟩
            case measure => simp [intOf]; omega
          · clear HBB HO4 HO3
            go_wp2_with fail
            refine (parse_any Y _ (by omega)).mono ?_
            rintro e w6 ⟨v6, rfl, ho6, hb6⟩
            have HB6 := Hd.mk (HBA.out.trans (hb6.mono HBA.out.size))
            by_cases he0 : (prmAll Y).1 = 0
            · have HAG := Hd.mk (prm_again he0)
              have HTT := Hd.mk (prm_tot Y)
              have HNN := Hd.mk (prm_nm Y)
              have HO6 := Hd.mk (RdQ.of_own ho6)
              rw [he0]
              clear ho6 hb6 he0
              generalize (prmAll Y).2.1 = N at *
              generalize (prmAll Y).2.2 = K at *
              obtain ⟨a6, c6, rfl, m6, -, -⟩ := HO6.out.pars
              have hnn : N.size ≤ 1000 := by have := HNN.out; omega
              have HSZ := Hd.mk (show ∀ p ∈ K, p.1.size ≤ 1000 ∧ p.2.size ≤ 1000 from fun p hp => by have := totP_mem hp; have := HTT.out; omega)
              have hkl : K.length ≤ 1000 := by have := totP_len K; have := HTT.out; omega
              have HP7 := Hd.mk (show (prtS N K).size ≤ 13000 by have := prtS_sz N K; have := HTT.out; omega)
              go_wp2_with fail
              refine (print_at N _ K _ HO6.out hnn HSZ.out hkl).mono ?_
              rintro e w7 ⟨rfl, hb7⟩
              rw [HAG.out.1]
              have HB7 := Hd.mk (HB6.out.trans (hb7.mono HB6.out.size))
              have HO7 := Hd.mk (HO6.out.below hb7)
              have HAG2 := Hd.mk HAG.out.2
              clear hb7
              generalize prtS N K = t7 at *
              go_wp2_with fail
              refine (parse_any t7 _ (by have := HP7.out; omega)).mono ?_
              rintro e w8 ⟨v8, rfl, ho8, hb8⟩
              rw [HAG2.out] at ho8 ⊢
              have HO8 := Hd.mk (RdQ.of_own ho8)
              have HB8 := Hd.mk (HB7.out.trans (hb8.mono HB7.out.size))
              have HO78 := Hd.mk (HO7.out.below hb8)
              clear ho8 hb8
              go_wp2_with fail
              refine (same_at _ _ K _ HO8.out HO78.out (by omega)).mono ?_
              rintro e w9 ⟨rfl, hb9⟩
              have HB9 := Hd.mk (HB8.out.trans (hb9.mono HB8.out.size))
              clear hb9
              go_wp2_with fail
              refine (lives8_any _).mono ?_
              rintro e w10 ⟨rfl, hb10⟩
              go_wp2_with fail
              go_ret
              exact ⟨rfl, HB9.out.trans (hb10.mono HB9.out.size)⟩
            · obtain ⟨hne, hke⟩ := prm_bad he0
              rw [hne]
              rw [hke] at ho6
              obtain ⟨a6, c6, rfl⟩ := own_len8 ho6
              have hb1 : ((prmAll Y).1 == 0) = false := by simpa using he0
              have hb2 : ((prmAll Y).1 != 0) = true := by rw [bne, hb1]; rfl
              clear ho6 hb6 he0 hne hke
              go_wp2_with fail
              refine (lives8_any _).mono ?_
              rintro e w10 ⟨rfl, hb10⟩
              go_wp2_with fail
              go_ret
              exact ⟨rfl, HB6.out.trans (hb10.mono HB6.out.size)⟩
theorem pback_arg (v0 v1 v2 : Value) (w : World) (h0 : Arg Try.prog w 9 v0) (h1 : Arg Try.prog w 39 v1) (h2 : Arg Try.prog w 9 v2) :
    Calls Try.prog 5 #[v0, v1, v2] w fun e w' => e = .returned (.bool true) ∧ Below w.heap.size w w' := by
  obtain ⟨s, rfl, hs⟩ := h0.str Try.underlying9
  obtain ⟨t, rfl, ht⟩ := h2.str Try.underlying9
  obtain ⟨ps, hv, hz⟩ := h1.list (f := parC) (Q := fun p => p.1.size ≤ maxLen ∧ p.2.size ≤ maxLen) Try.underlying39 Try.fcellsPar (by omega) fun E hE => par_of Try.underlying49 Try.underlying9 Try.fcellsPar Try.fcellsStr ⟨_, rfl, rfl, rfl⟩ ⟨_, rfl, rfl, rfl⟩ hE
  obtain ⟨x, hx⟩ := cut_any 60 s
  obtain ⟨y, hy⟩ := cut_any 1000 t
  exact pback_core s x t y hx hy hs ht v1 ps w hv hz
end Go.Proofs.Ytjocmjmfkgogiaa
