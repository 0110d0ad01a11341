/- Hosts (layer 11): what is read of the text of what was read (P11.4), as plain facts. -/
import Derived.Test.YtahehpgnemanmaaHoa
import Derived.Test.YtahehpgnemanmaaLaw2
import Derived.Test.YtahehpgnemanmaaKeeps
namespace Go.Proofs.Ytahehpgnemanmaa
open Go.RowKit
set_option linter.unusedVariables false
set_option linter.unusedSimpArgs false

theorem hsHex_low : ∀ n, n < 256 → hsHex (lowN n) = hsHex n := by decide +kernel
theorem hsNm_low : ∀ n, n < 256 → hsNm (lowN n) = hsNm n := by decide +kernel
theorem hsLit_low : ∀ n, n < 256 → hsLit (lowN n) = hsLit n := by decide +kernel
theorem low_37 : ∀ n, n < 256 → (lowN n = 37 ↔ n = 37) := by decide +kernel
theorem low_91 : ∀ n, n < 256 → (lowN n = 91 ↔ n = 91) := by decide +kernel
theorem low_93 : ∀ n, n < 256 → (lowN n = 93 ↔ n = 93) := by decide +kernel
theorem hsStep_low (o : Option Nat) (c : UInt8) : hsStep o (lowC c) = hsStep o c := by
  have h := UInt8.toNat_lt c
  cases o with
  | none => rfl
  | some l => simp only [hsStep, lowC_toNat, hsHex_low _ h, hsNm_low _ h, low_37 _ h]
theorem hsFold_low : ∀ (l : List UInt8) (o : Option Nat), (lowL l).foldl hsStep o = l.foldl hsStep o
  | [], _ => rfl
  | c :: l, o => by
    show (lowL l).foldl hsStep (hsStep o (lowC c)) = l.foldl hsStep (hsStep o c)
    rw [hsStep_low, hsFold_low l]
theorem hsRun_low (l : List UInt8) : hsRun (lowL l) = hsRun l := hsFold_low l _
theorem lowB_list (s : ByteArray) : (lowB s).data.toList = lowL s.data.toList := by simp [lowB]
theorem lowB_bt (s : ByteArray) (j : Nat) (h : j < s.size) : bt (lowB s) j = lowN (bt s j) := by
  rw [← bt_list (lowB s) j (by rw [lowB_size]; exact h), ← bt_list s j h]
  simp only [lowB_list, lowL, List.getElem_map, lowC_toNat]
theorem hsNamed_lowB (s : ByteArray) : hsNamed (lowB s) = hsNamed s := by
  have hz := lowB_size s
  by_cases h0 : 0 < s.size
  · have hb := lowB_bt s 0 h0
    by_cases h1 : bt s 0 = 91
    · have h2 : bt (lowB s) 0 = 91 := by rw [hb]; exact (low_91 _ (bt_lt s 0)).2 h1
      rw [Bool.eq_iff_iff, hsNamed_lit (by omega) h2, hsNamed_lit h0 h1, hz]
      constructor
      · rintro ⟨a, b, c⟩
        refine ⟨a, ?_, fun j h3 h4 => ?_⟩
        · rw [lowB_bt s _ (by omega)] at b; exact (low_93 _ (bt_lt _ _)).1 b
        · have := c j h3 h4
          rw [lowB_bt s _ (by omega), hsLit_low _ (bt_lt _ _)] at this; exact this
      · rintro ⟨a, b, c⟩
        refine ⟨a, ?_, fun j h3 h4 => ?_⟩
        · rw [lowB_bt s _ (by omega)]; exact (low_93 _ (bt_lt _ _)).2 b
        · rw [lowB_bt s _ (by omega), hsLit_low _ (bt_lt _ _)]; exact c j h3 h4
    · have h2 : bt (lowB s) 0 ≠ 91 := by rw [hb]; exact fun e => h1 ((low_91 _ (bt_lt s 0)).1 e)
      rw [Bool.eq_iff_iff, hsNamed_nm (.inr h2), hsNamed_nm (.inr h1), hz, lowB_list, hsRun_low]
  · have : s = ⟨#[]⟩ := ba_ext (List.length_eq_zero_iff.1 (by rw [← ba_size]; omega))
    subst this; rfl

def hsColon (d : ByteArray) : ByteArray := ⟨#[58]⟩ ++ d
theorem hsColon_size (d : ByteArray) : (hsColon d).size = 1 + d.size := by unfold hsColon; rw [ByteArray.size_append]; rfl
/-- P11.3. -/
def hsTxt (nm : ByteArray) (p : Int) : ByteArray := if p = 80 then lowB nm else lowB nm ++ hsColon (ofL (textL p))
def hsK (s : ByteArray) : ByteArray := if hsE s = 0 then hsTxt (hsN s) (hsP s) else ⟨#[]⟩

theorem hsNm_whole {a : ByteArray} (h : hsNamed a = true) : HsNm a a.size := by
  by_cases h1 : 0 < a.size ∧ bt a 0 = 91
  · obtain ⟨h0, h1⟩ := h1
    obtain ⟨q1, q2, q3⟩ := (hsNamed_lit h0 h1).1 h
    have := HsNm.lit (a.size - 1) h0 h1 (by omega) (by omega) q3 q2
    rwa [show a.size - 1 + 1 = a.size by omega] at this
  · have h2 : a.size = 0 ∨ bt a 0 ≠ 91 := by
      by_cases e : a.size = 0
      · exact .inl e
      · exact .inr fun q => h1 ⟨by omega, q⟩
    exact .whole h2 ((hsNamed_nm h2).1 h).2
theorem app_bt (a b : ByteArray) (j : Nat) (h : j < a.size) : bt (a ++ b) j = bt a j := by
  rw [← bt_list (a ++ b) j (by rw [ByteArray.size_append]; omega), ← bt_list a j h]
  simp only [ByteArray.data_append, Array.toList_append]
  rw [List.getElem_append_left]
theorem app_bt2 (a b : ByteArray) (j : Nat) (h : j < b.size) : bt (a ++ b) (a.size + j) = bt b j := by
  rw [← bt_list (a ++ b) (a.size + j) (by rw [ByteArray.size_append]; omega), ← bt_list b j h]
  simp only [ByteArray.data_append, Array.toList_append]
  rw [List.getElem_append_right (by rw [← ba_size]; omega)]
  congr 2
  rw [← ba_size]; omega
theorem hsNm_colon {a d : ByteArray} (h : hsNamed a = true) : HsNm (a ++ hsColon d) a.size := by
  have hsz : (a ++ hsColon d).size = a.size + 1 + d.size := by rw [ByteArray.size_append, hsColon_size]; omega
  have h58 : bt (a ++ hsColon d) a.size = 58 := by
    have := app_bt2 a (hsColon d) 0 (by rw [hsColon_size]; omega)
    rw [Nat.add_zero] at this
    rw [this]
    unfold hsColon
    rw [app_bt _ _ 0 (by show 0 < 1; omega)]; rfl
  have ht : (a ++ hsColon d).data.toList.take a.size = a.data.toList := by
    rw [ByteArray.data_append, Array.toList_append, List.take_left' (by rw [← ba_size])]
  by_cases h1 : 0 < a.size ∧ bt a 0 = 91
  · obtain ⟨h0, h1⟩ := h1
    obtain ⟨q1, q2, q3⟩ := (hsNamed_lit h0 h1).1 h
    have := HsNm.lit (s := a ++ hsColon d) (a.size - 1) (by omega) (by rw [app_bt _ _ 0 h0]; exact h1) (by omega) (by omega) (fun j g1 g2 => by rw [app_bt _ _ j (by omega)]; exact q3 j g1 g2) (by rw [app_bt _ _ _ (by omega)]; exact q2)
    rwa [show a.size - 1 + 1 = a.size by omega] at this
  · have h2 : a.size = 0 ∨ bt a 0 ≠ 91 := by
      by_cases e : a.size = 0
      · exact .inl e
      · exact .inr fun q => h1 ⟨by omega, q⟩
    obtain ⟨q1, q2⟩ := (hsNamed_nm h2).1 h
    exact .stop _ (by rw [app_bt _ _ 0 q1]; exact h2.resolve_left (by omega)) (by omega) (by rw [ht]; exact q2) (by rw [h58]; decide) (by rw [h58]; rfl)
theorem hsE_named {s : ByteArray} (h : hsE s = 0) : 0 < s.size ∧ hsNamed (hsName s) = true ∧ (hsHas s = true → hsDigs (hsNum s) = true ∧ numE 10 (hsNum s) 65535 = 0) := by
  unfold hsE at h
  split at h
  · cases h
  · rename_i h0
    split at h
    · cases h
    · rename_i h1
      split at h
      · cases h
      · rename_i h2
        refine ⟨by omega, by simpa using h2, fun hh => ?_⟩
        rw [if_pos hh] at h
        refine ⟨?_, h⟩
        cases hd : hsDigs (hsNum s)
        · exact absurd ⟨hh, hd⟩ h1
        · rfl
theorem hsP_range (s : ByteArray) : 0 ≤ hsP s ∧ hsP s ≤ 65535 := by
  unfold hsP
  split
  · rename_i h
    split
    · rename_i hh
      obtain ⟨h1, h2⟩ := (hsE_named h).2.2 hh
      obtain ⟨d1, d2⟩ := digs_iff.1 h1
      by_cases hb : (65535 : Int) < valN 10 (hsNum s).data.toList
      · have := (num_great (by omega) d2 hb).1
        rw [h2] at this; cases this
      · have := (num_fits (most := 65535) (by omega) d2 (by omega)).2
        omega
    · omega
  · omega
theorem hs_back {nm : ByteArray} {p : Int} (h : hsNamed nm = true) (h0 : 0 ≤ p) (h1 : p ≤ 65535) : hsE (hsTxt nm p) = 0 ∧ hsN (hsTxt nm p) = lowB nm ∧ hsP (hsTxt nm p) = p := by
  have hl : hsNamed (lowB nm) = true := by rw [hsNamed_lowB]; exact h
  have hpos : 0 < (lowB nm).size := by
    by_cases e : 0 < (lowB nm).size
    · exact e
    · rw [hsNamed_nm (.inl (by omega))] at hl; exact absurd hl.1 e
  by_cases h80 : p = 80
  · have et : hsTxt nm p = lowB nm := by unfold hsTxt; rw [if_pos h80]
    rw [et]
    rcases host_eq (hsNm_whole hl) hpos with ⟨a, b, _⟩ | ⟨_, _, _, q, _⟩ | ⟨_, _, q, _⟩
    · have hn : hsName (lowB nm) = lowB nm := by unfold hsName; rw [a]; rfl
      have hE : hsE (lowB nm) = 0 := by
        unfold hsE
        rw [if_neg (by omega), if_neg (by rw [a]; simp), hn, if_neg (by rw [b]; simp), if_neg (by rw [a]; simp)]
      refine ⟨hE, ?_, ?_⟩
      · unfold hsN; rw [hE, if_pos rfl, hn]
      · unfold hsP; rw [hE, if_pos rfl, if_neg (by rw [a]; simp), h80]
    · omega
    · omega
  · have et : hsTxt nm p = lowB nm ++ hsColon (ofL (textL p)) := by unfold hsTxt; rw [if_neg h80]
    have etx : textL p = wdig 10 1 p.toNat := by unfold textL; rw [if_neg (by omega)]
    have hb := (num_back 10 1 p.toNat 65535 (by omega) (by omega) (by omega) (by omega)).1 (by omega)
    rw [← etx] at hb
    have hdig : hsDigs (ofL (textL p)) = true := by
      cases hd : hsDigs (ofL (textL p))
      · rcases numE_no (m := 65535) hd with e | e <;> rw [hb.2] at e <;> cases e
      · rfl
    generalize hD : ofL (textL p) = d at *
    rw [et]
    have hsz : (lowB nm ++ hsColon d).size = (lowB nm).size + 1 + d.size := by rw [ByteArray.size_append, hsColon_size]; omega
    have hfrom : hsFrom (lowB nm ++ hsColon d) ((lowB nm).size + 1) = d := by
      refine ba_ext ?_
      rw [hsFrom_list, ByteArray.data_append, Array.toList_append]
      unfold hsColon
      rw [ByteArray.data_append, Array.toList_append, ← List.append_assoc, List.drop_left' (by rw [List.length_append, ← ba_size]; rfl)]
    have hup : hsUp (lowB nm ++ hsColon d) (lowB nm).size = lowB nm := by
      refine ba_ext ?_
      rw [hsUp_list, ByteArray.data_append, Array.toList_append, List.take_left' (by rw [← ba_size])]
    rcases host_eq (hsNm_colon (d := d) hl) (by omega) with ⟨_, _, q⟩ | ⟨a, b, _, _, _, c, e⟩ | ⟨_, _, _, q⟩
    · omega
    · have hnm : hsName (lowB nm ++ hsColon d) = lowB nm := by unfold hsName; rw [if_pos a, b, Int.toNat_natCast, hup]
      have hnu : hsNum (lowB nm ++ hsColon d) = d := by unfold hsNum; rw [if_pos a, b, Int.toNat_natCast, hfrom]
      have hE : hsE (lowB nm ++ hsColon d) = 0 := by
        unfold hsE
        rw [if_neg (by omega), hnu, if_neg (by rw [hdig]; simp), hnm, if_neg (by rw [hl]; simp), if_pos a, hb.2]
      refine ⟨hE, ?_, ?_⟩
      · unfold hsN; rw [hE, if_pos rfl, hnm]
      · unfold hsP; rw [hE, if_pos rfl, if_pos a, hnu, hb.1]; omega
    · rcases q with q | q | ⟨_, q⟩
      · omega
      · exfalso
        have := hsNm_colon (d := d) hl
        have h58 : bt (lowB nm ++ hsColon d) (lowB nm).size = 58 := by
          have := app_bt2 (lowB nm) (hsColon d) 0 (by rw [hsColon_size]; omega)
          rw [Nat.add_zero] at this
          rw [this]
          unfold hsColon
          rw [app_bt _ _ 0 (by show 0 < 1; omega)]; rfl
        exact q h58
      · rw [hfrom, hdig] at q; cases q
theorem low_low_txt (nm : ByteArray) (p : Int) : hsTxt (lowB nm) p = hsTxt nm p := by unfold hsTxt; rw [lowB_lowB]
/-- P11.4: a key is its own key. -/
theorem hs_key {s : ByteArray} (h : hsE s = 0) : hsE (hsK s) = 0 ∧ hsK (hsK s) = hsK s := by
  obtain ⟨_, h1, _⟩ := hsE_named h
  obtain ⟨p0, p1⟩ := hsP_range s
  have hn : hsN s = hsName s := by unfold hsN; rw [if_pos h]
  obtain ⟨b1, b2, b3⟩ := hs_back (nm := hsN s) (p := hsP s) (by rw [hn]; exact h1) p0 p1
  have e : hsK s = hsTxt (hsN s) (hsP s) := by unfold hsK; rw [if_pos h]
  rw [e]
  refine ⟨b1, ?_⟩
  unfold hsK
  rw [if_pos b1, b2, b3, low_low_txt]
end Go.Proofs.Ytahehpgnemanmaa
