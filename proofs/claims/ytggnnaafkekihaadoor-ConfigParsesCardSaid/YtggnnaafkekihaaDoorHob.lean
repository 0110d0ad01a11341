/- Hosts (layer 11): names, literals and ports as plain functions; what the document's way and the program's way come to is one. · Hosts (layer 11): what is read of the text of what was read (P11.4), as plain facts. -/
import Derived.Test.YtggnnaafkekihaaDoorTxt
import Derived.Test.YtggnnaafkekihaaDoorPb
import Derived.Lib.LastIndexByte
import Derived.Test.YtggnnaafkekihaaDoorLaw2
import Derived.Test.YtggnnaafkekihaaDoorKeeps
namespace Go.Proofs.YtggnnaafkekihaaDoor
open Go.RowKit
set_option linter.unusedVariables false
set_option linter.unusedSimpArgs false

def hsHex (n : Nat) : Bool := decide (digV n < 16)
def hsSigns : List Nat := [45, 46, 95, 126, 33, 36, 38, 39, 40, 41, 42, 43, 44, 59, 61]
def hsNm (n : Nat) : Bool := (decide (48 ≤ n) && decide (n ≤ 57)) || (decide (65 ≤ n) && decide (n ≤ 90)) || (decide (97 ≤ n) && decide (n ≤ 122)) || hsSigns.any (fun m => m == n)
def hsLit (n : Nat) : Bool := hsHex n || n == 58 || n == 46
def hsDig (n : Nat) : Bool := decide (48 ≤ n) && decide (n ≤ 57)
theorem hsNm_58 : hsNm 58 = false := by decide
theorem hsNm_93 : hsNm 93 = false := by decide
theorem hsHex_58 : hsHex 58 = false := by decide
theorem hsHex_93 : hsHex 93 = false := by decide
theorem hsLit_93 : hsLit 93 = false := by decide
theorem hsDig_58 : hsDig 58 = false := by decide
theorem hsDig_93 : hsDig 93 = false := by decide
theorem hsHex_high (n : Nat) (h : 128 ≤ n) : hsHex n = false := by unfold hsHex; rw [digV_high n h]; rfl
theorem hsDig_dig (n : Nat) : hsDig n = decide (digV n < 10) := by
  unfold hsDig digV
  rw [Bool.eq_iff_iff]
  repeat' split
  all_goals simp
  all_goals omega
theorem hsSigns_high (n : Nat) (h : 127 ≤ n) : hsSigns.any (fun m => m == n) = false := by
  simp [hsSigns]; omega

/-- How many digits must come behind a %, octet by octet. -/
def hsStep : Option Nat → UInt8 → Option Nat
  | none, _ => none
  | some left, c => if 0 < left then (if hsHex c.toNat = true then some (left - 1) else none) else if c.toNat = 37 then some 2 else if hsNm c.toNat = true then some 0 else none
def hsRun (l : List UInt8) : Option Nat := l.foldl hsStep (some 0)
theorem hsFold_none : ∀ l : List UInt8, l.foldl hsStep none = none
  | [] => rfl
  | c :: l => hsFold_none l
theorem hsRun_snoc (l : List UInt8) (c : UInt8) : hsRun (l ++ [c]) = hsStep (hsRun l) c := by simp [hsRun, List.foldl_append]
theorem hsRun_take (s : ByteArray) (k : Nat) (h : k < s.size) : hsRun (s.data.toList.take (k + 1)) = hsStep (hsRun (s.data.toList.take k)) s[k] := by
  rw [take_snoc s k h, hsRun_snoc]
theorem hsRun_mono {s : ByteArray} {k m : Nat} (h : hsRun (s.data.toList.take k) = none) (hm : k ≤ m) : hsRun (s.data.toList.take m) = none := by
  have e : s.data.toList.take m = s.data.toList.take k ++ (s.data.toList.drop k).take (m - k) := by rw [← List.take_add]; congr 1; omega
  unfold hsRun at h ⊢
  rw [e, List.foldl_append, h, hsFold_none]
theorem hsStep_no {o : Option Nat} {c : UInt8} (h1 : hsHex c.toNat = false) (h2 : hsNm c.toNat = false) (h3 : c.toNat ≠ 37) : hsStep o c = none := by
  cases o with
  | none => rfl
  | some l => simp only [hsStep, h1, h2, h3]; split <;> simp
/-- What is read has neither a colon nor a closing bracket. -/
theorem hsRun_free {s : ByteArray} {k : Nat} (hk : k ≤ s.size) (h : hsRun (s.data.toList.take k) ≠ none) : ∀ j, j < k → bt s j ≠ 58 ∧ bt s j ≠ 93 := by
  intro j hj
  have hjs : j < s.size := by omega
  have hn : hsRun (s.data.toList.take (j + 1)) ≠ none := fun e => h (hsRun_mono e (by omega))
  rw [hsRun_take s j hjs] at hn
  have hb := bt_at s j hjs
  refine ⟨fun e => hn ?_, fun e => hn ?_⟩
  · exact hsStep_no (by rw [hb, e]; rfl) (by rw [hb, e]; rfl) (by rw [hb, e]; decide)
  · exact hsStep_no (by rw [hb, e]; rfl) (by rw [hb, e]; rfl) (by rw [hb, e]; decide)
theorem hsRun_stop {s : ByteArray} {n m : Nat} (hn : n < s.size) (h : hsRun (s.data.toList.take n) = some 0) (h1 : bt s n ≠ 37) (h2 : hsNm (bt s n) = false) (hm : n < m) : hsRun (s.data.toList.take m) = none := by
  refine hsRun_mono (k := n + 1) ?_ (by omega)
  rw [hsRun_take s n hn, h]
  have hb := bt_at s n hn
  simp only [hsStep, hb, h1, h2]; simp
theorem hsRun_pct {s : ByteArray} {n m : Nat} (hn : n < s.size) (h : hsRun (s.data.toList.take n) = some 0) (h1 : bt s n = 37) (hm : n < m) (hms : m ≤ s.size) (hr : hsRun (s.data.toList.take m) = some 0) :
    n + 2 < m ∧ hsHex (bt s (n + 1)) = true ∧ hsHex (bt s (n + 2)) = true := by
  have r1 : hsRun (s.data.toList.take (n + 1)) = some 2 := by
    rw [hsRun_take s n hn, h]
    have hb := bt_at s n hn
    simp only [hsStep, hb, h1]; simp
  by_cases e1 : m = n + 1
  · rw [e1, r1] at hr; cases hr
  have r2 : hsRun (s.data.toList.take (n + 2)) = if hsHex (bt s (n + 1)) = true then some 1 else none := by
    rw [hsRun_take s (n + 1) (by omega), r1]
    have hb := bt_at s (n + 1) (by omega)
    simp only [hsStep, hb]; simp
  cases q1 : hsHex (bt s (n + 1))
  · rw [q1] at r2
    have := hsRun_mono (m := m) (by rw [r2]; simp) (show n + 2 ≤ m by omega)
    rw [this] at hr; cases hr
  rw [q1, if_pos rfl] at r2
  by_cases e2 : m = n + 2
  · rw [e2, r2] at hr; cases hr
  have r3 : hsRun (s.data.toList.take (n + 3)) = if hsHex (bt s (n + 2)) = true then some 0 else none := by
    rw [hsRun_take s (n + 2) (by omega), r2]
    have hb := bt_at s (n + 2) (by omega)
    simp only [hsStep, hb]; simp
  cases q2 : hsHex (bt s (n + 2))
  · rw [q2] at r3
    have := hsRun_mono (m := m) (by rw [r3]; simp) (show n + 3 ≤ m by omega)
    rw [this] at hr; cases hr
  exact ⟨by omega, rfl, rfl⟩
theorem hsRun_three {s : ByteArray} {n : Nat} (hn : n + 2 < s.size) (h : hsRun (s.data.toList.take n) = some 0) (h1 : bt s n = 37) (q1 : hsHex (bt s (n + 1)) = true) (q2 : hsHex (bt s (n + 2)) = true) : hsRun (s.data.toList.take (n + 3)) = some 0 := by
  have b0 := bt_at s n (by omega)
  have b1 := bt_at s (n + 1) (by omega)
  have b2 := bt_at s (n + 2) (by omega)
  have r1 : hsStep (some 0) s[n] = some 2 := by simp only [hsStep, b0, h1]; simp
  have r2 : hsStep (some 2) s[n + 1] = some 1 := by simp only [hsStep, b1, q1]; simp
  have r3 : hsStep (some 1) s[n + 2] = some 0 := by simp only [hsStep, b2, q2]; simp
  rw [hsRun_take s (n + 2) hn, hsRun_take s (n + 1) (by omega), hsRun_take s n (by omega), h, r1, r2, r3]
theorem hsRun_one {s : ByteArray} {n : Nat} (hn : n < s.size) (h : hsRun (s.data.toList.take n) = some 0) (h1 : bt s n ≠ 37) (h2 : hsNm (bt s n) = true) : hsRun (s.data.toList.take (n + 1)) = some 0 := by
  have b0 := bt_at s n hn
  rw [hsRun_take s n hn, h]
  simp only [hsStep, b0, h1, h2]; simp

/-- P11.1, as the document's answer has it: how many octets the name has that begins s; 0: there is none. -/
inductive HsNm (s : ByteArray) : Nat → Prop
  | lit0 (n : Nat) : 0 < s.size → bt s 0 = 91 → 1 ≤ n → n ≤ s.size → (∀ j, 1 ≤ j → j < n → hsLit (bt s j) = true) → (n = s.size ∨ hsLit (bt s n) = false) → (n = 1 ∨ n = s.size ∨ bt s n ≠ 93) → HsNm s 0
  | lit (n : Nat) : 0 < s.size → bt s 0 = 91 → 2 ≤ n → n < s.size → (∀ j, 1 ≤ j → j < n → hsLit (bt s j) = true) → bt s n = 93 → HsNm s (n + 1)
  | whole : (s.size = 0 ∨ bt s 0 ≠ 91) → hsRun s.data.toList = some 0 → HsNm s s.size
  | bad (n : Nat) : bt s 0 ≠ 91 → n < s.size → hsRun (s.data.toList.take n) = some 0 → bt s n = 37 → (s.size ≤ n + 2 ∨ hsHex (bt s (n + 1)) = false ∨ hsHex (bt s (n + 2)) = false) → HsNm s 0
  | stop (n : Nat) : bt s 0 ≠ 91 → n < s.size → hsRun (s.data.toList.take n) = some 0 → bt s n ≠ 37 → hsNm (bt s n) = false → HsNm s n
theorem HsNm.le {s : ByteArray} {k : Nat} (h : HsNm s k) : k ≤ s.size := by cases h <;> omega

def hsUp (s : ByteArray) (n : Nat) : ByteArray := s.extract 0 n
def hsFrom (s : ByteArray) (n : Nat) : ByteArray := s.extract n s.size
theorem hsUp_list (s : ByteArray) (n : Nat) : (hsUp s n).data.toList = s.data.toList.take n := by unfold hsUp; rw [Lib.extract_data]; simp
theorem hsUp_size (s : ByteArray) (n : Nat) (h : n ≤ s.size) : (hsUp s n).size = n := by rw [ba_size, hsUp_list, List.length_take, ← ba_size]; omega
theorem hsFrom_list (s : ByteArray) (n : Nat) : (hsFrom s n).data.toList = s.data.toList.drop n := by unfold hsFrom; rw [Lib.extract_to_end]
theorem hsFrom_size (s : ByteArray) (n : Nat) : (hsFrom s n).size = s.size - n := by rw [ba_size, hsFrom_list, List.length_drop, ← ba_size]
theorem hsUp_bt (s : ByteArray) (n j : Nat) (h : j < n) (hn : n ≤ s.size) : bt (hsUp s n) j = bt s j := by
  rw [← bt_list (hsUp s n) j (by rw [hsUp_size s n hn]; exact h), ← bt_list s j (by omega)]
  simp only [hsUp_list, List.getElem_take]
theorem hsFrom_bt (s : ByteArray) (n j : Nat) (h : n + j < s.size) : bt (hsFrom s n) j = bt s (n + j) := by
  rw [← bt_list (hsFrom s n) j (by rw [hsFrom_size]; omega), ← bt_list s (n + j) h]
  simp only [hsFrom_list, List.getElem_drop]

/-- P11.1, as the program has it: is s a name, or a literal? -/
def hsNamed (s : ByteArray) : Bool := if 0 < s.size ∧ bt s 0 = 91 then decide (2 < s.size) && ((bt s (s.size - 1) == 93) && allB hsLit (s.extract 1 (s.size - 1))) else decide (0 < s.size) && (hsRun s.data.toList == some 0)
theorem ext_bt (s : ByteArray) (a b j : Nat) (h : a + j < b) (hb : b ≤ s.size) : bt (s.extract a b) j = bt s (a + j) := by
  rw [← bt_list (s.extract a b) j (by rw [ByteArray.size_extract]; omega), ← bt_list s (a + j) (by omega)]
  simp only [Lib.extract_data, List.getElem_take, List.getElem_drop]
theorem allB_ext {P : Nat → Bool} {s : ByteArray} {a b : Nat} (hb : b ≤ s.size) : allB P (s.extract a b) = true ↔ ∀ j, a ≤ j → j < b → P (bt s j) = true := by
  constructor
  · intro h j h1 h2
    have hsz : (s.extract a b).size = b - a := by rw [ByteArray.size_extract]; omega
    have e := ext_bt s a b (j - a) (by omega) hb
    rw [show a + (j - a) = j by omega] at e
    rw [← e]
    unfold allB at h
    rw [List.all_eq_true] at h
    have hj : j - a < (s.extract a b).size := by omega
    rw [← bt_list _ _ hj]
    exact h _ (List.getElem_mem _)
  · intro h
    refine allB_true fun j hj => ?_
    have hsz : (s.extract a b).size = b - a := by rw [ByteArray.size_extract]; omega
    rw [ext_bt s a b j (by omega) hb]
    exact h _ (by omega) (by omega)
theorem hsNamed_lit {s : ByteArray} (h0 : 0 < s.size) (h1 : bt s 0 = 91) : hsNamed s = true ↔ 2 < s.size ∧ bt s (s.size - 1) = 93 ∧ ∀ j, 1 ≤ j → j < s.size - 1 → hsLit (bt s j) = true := by
  unfold hsNamed
  rw [if_pos ⟨h0, h1⟩, Bool.and_eq_true, Bool.and_eq_true, decide_eq_true_eq, beq_iff_eq, allB_ext (by omega)]
theorem hsNamed_nm {s : ByteArray} (h1 : s.size = 0 ∨ bt s 0 ≠ 91) : hsNamed s = true ↔ 0 < s.size ∧ hsRun s.data.toList = some 0 := by
  unfold hsNamed
  rw [if_neg (fun h => h1.elim (fun e => by omega) (fun e => e h.2)), Bool.and_eq_true, decide_eq_true_eq, beq_iff_eq]
theorem hsNamed_up_lit {s : ByteArray} {c : Nat} (h0 : 0 < c) (hc : c ≤ s.size) (h1 : bt s 0 = 91) : hsNamed (hsUp s c) = true ↔ 2 < c ∧ bt s (c - 1) = 93 ∧ ∀ j, 1 ≤ j → j < c - 1 → hsLit (bt s j) = true := by
  have hz := hsUp_size s c hc
  rw [hsNamed_lit (by omega) (by rw [hsUp_bt s c 0 h0 hc]; exact h1), hz]
  constructor
  · rintro ⟨a, b, d⟩
    refine ⟨a, ?_, fun j h2 h3 => ?_⟩
    · rw [hsUp_bt s c _ (by omega) hc] at b; exact b
    · have := d j h2 h3
      rw [hsUp_bt s c _ (by omega) hc] at this; exact this
  · rintro ⟨a, b, d⟩
    refine ⟨a, ?_, fun j h2 h3 => ?_⟩
    · rw [hsUp_bt s c _ (by omega) hc]; exact b
    · rw [hsUp_bt s c _ (by omega) hc]; exact d j h2 h3
theorem hsNamed_up_nm {s : ByteArray} {c : Nat} (hc : c ≤ s.size) (h1 : c = 0 ∨ bt s 0 ≠ 91) : hsNamed (hsUp s c) = true ↔ 0 < c ∧ hsRun (s.data.toList.take c) = some 0 := by
  have hz := hsUp_size s c hc
  rw [hsNamed_nm (by
    rcases h1 with h1 | h1
    · left; omega
    · by_cases e : c = 0
      · left; omega
      · right; rw [hsUp_bt s c 0 (by omega) hc]; exact h1), hz, hsUp_list]

/-- Where the last octet c stands. -/
theorem last_spec (s : ByteArray) (c : Nat) : (Lib.lastIndexByte s c = -1 ∧ ∀ j, j < s.size → bt s j ≠ c) ∨ (∃ i : Nat, i < s.size ∧ Lib.lastIndexByte s c = i ∧ bt s i = c ∧ ∀ j, i < j → j < s.size → bt s j ≠ c) := by
  have hb : ∀ j, (s.data[j]!).toNat = bt s j := fun j => rfl
  rcases Lib.lastIndexByte_spec s c with ⟨h1, h2⟩ | ⟨i, h1, h2, h3, h4⟩
  · left
    refine ⟨h1, fun j hj e => h2 j hj ?_⟩
    rw [hb, e]
  · right
    refine ⟨i, h1, h2, ?_, fun j hj hj2 e => h4 j hj hj2 ?_⟩
    · rw [hb] at h3; omega
    · rw [hb, e]
def hsCol (s : ByteArray) : Int := Lib.lastIndexByte s (58 : Nat)
def hsBra (s : ByteArray) : Int := Lib.lastIndexByte s (93 : Nat)
/-- Is there a port behind a colon of its own? -/
def hsHas (s : ByteArray) : Bool := decide (hsBra s < hsCol s)
def hsName (s : ByteArray) : ByteArray := if hsHas s = true then hsUp s (hsCol s).toNat else s
def hsNum (s : ByteArray) : ByteArray := if hsHas s = true then hsFrom s ((hsCol s).toNat + 1) else ⟨#[]⟩
def hsDigs (s : ByteArray) : Bool := decide (0 < s.size) && allB hsDig s
/-- P11.2: what is wrong with s. -/
def hsE (s : ByteArray) : Int := if s.size = 0 then 2 else if hsHas s = true ∧ hsDigs (hsNum s) = false then 3 else if hsNamed (hsName s) = false then 3 else if hsHas s = true then numE 10 (hsNum s) 65535 else 0
def hsN (s : ByteArray) : ByteArray := if hsE s = 0 then hsName s else ⟨#[]⟩
def hsP (s : ByteArray) : Int := if hsE s = 0 then (if hsHas s = true then numV 10 (hsNum s) 65535 else 80) else 0

theorem digs_iff {s : ByteArray} : hsDigs s = true ↔ 0 < s.size ∧ ∀ j, j < s.size → digV (bt s j) < 10 := by
  unfold hsDigs
  rw [Bool.and_eq_true, decide_eq_true_eq]
  constructor
  · rintro ⟨h1, h2⟩
    refine ⟨h1, fun j hj => ?_⟩
    unfold allB at h2
    rw [List.all_eq_true] at h2
    have := h2 _ (List.getElem_mem (by simpa using hj : j < s.data.toList.length))
    rw [bt_list s j hj, hsDig_dig] at this
    exact of_decide_eq_true this
  · rintro ⟨h1, h2⟩
    exact ⟨h1, allB_true fun j hj => by rw [hsDig_dig]; exact decide_eq_true (h2 j hj)⟩
theorem numE_digs {s : ByteArray} {m : Int} (h : hsDigs s = true) : numE 10 s m = 0 ∨ numE 10 s m = 5 := by
  obtain ⟨h1, h2⟩ := digs_iff.1 h
  by_cases hb : m < valN 10 s.data.toList
  · exact .inr (num_great (by omega) h2 hb).1
  · exact .inl (num_fits (by omega) h2 (by omega)).1
theorem numE_no {s : ByteArray} {m : Int} (h : hsDigs s = false) : numE 10 s m = 2 ∨ numE 10 s m = 3 := by
  by_cases h0 : s.size = 0
  · exact .inl (num_empty h0).1
  · right
    have : ¬ ∀ j, j < s.size → digV (bt s j) < 10 := fun hh => by
      have := digs_iff.2 ⟨by omega, hh⟩
      rw [h] at this; cases this
    simp only [Classical.not_forall] at this
    obtain ⟨j, hj, hd⟩ := this
    exact (num_form j hj (by omega)).1

/-- What the name at the front tells of the whole. -/
theorem host_eq {s : ByteArray} {k : Nat} (h : HsNm s k) (h0 : 0 < s.size) :
    (hsHas s = false ∧ hsNamed s = true ∧ k = s.size) ∨
    (hsHas s = true ∧ hsCol s = k ∧ 0 < k ∧ k < s.size ∧ bt s k = 58 ∧ hsDigs (hsFrom s (k + 1)) = true ∧ hsNamed (hsUp s k) = true) ∨
    ((hsHas s = true ∧ hsDigs (hsNum s) = false ∨ hsNamed (hsName s) = false) ∧ k ≤ s.size ∧ k ≠ s.size ∧ (k = 0 ∨ bt s k ≠ 58 ∨ bt s k = 58 ∧ hsDigs (hsFrom s (k + 1)) = false)) := by
  have HB := last_spec s 93
  have HC := last_spec s 58
  -- the two ways to fail
  have fail : ((∀ c : Nat, hsCol s = c → c < s.size → bt s c = 58 → (∀ j, c < j → j < s.size → bt s j ≠ 58) → hsBra s < c → hsDigs (hsFrom s (c + 1)) = false ∨ hsNamed (hsUp s c) = false) ∧ (hsHas s = false → hsNamed s = false)) → (hsHas s = true ∧ hsDigs (hsNum s) = false ∨ hsNamed (hsName s) = false) := by
    rintro ⟨hA, hN⟩
    cases hh : hsHas s
    · right; unfold hsName; rw [hh]; exact hN hh
    · have hlt : hsBra s < hsCol s := of_decide_eq_true hh
      rcases HC with ⟨e, _⟩ | ⟨c, h1, h2, h3, h4⟩
      · exfalso
        have : hsCol s = -1 := e
        rcases HB with ⟨e2, _⟩ | ⟨b, _, e2, _⟩
        · have : hsBra s = -1 := e2; omega
        · have : hsBra s = b := e2; omega
      · have hc : hsCol s = c := h2
        rcases hA c hc h1 h3 h4 (by omega) with q | q
        · left
          refine ⟨rfl, ?_⟩
          unfold hsNum; rw [hh, if_pos rfl, hc, Int.toNat_natCast]; exact q
        · right
          unfold hsName; rw [hh, if_pos rfl, hc, Int.toNat_natCast]; exact q
  have bra_ge : ∀ b, b < s.size → bt s b = 93 → (b : Int) ≤ hsBra s := by
    intro b hb e
    rcases HB with ⟨_, q⟩ | ⟨i, _, e2, _, q⟩
    · exact absurd e (q b hb)
    · have : hsBra s = i := e2
      by_cases hbi : i < b
      · exact absurd e (q b hbi hb)
      · omega
  have bra_lt : ∀ m : Nat, (∀ j, m ≤ j → j < s.size → bt s j ≠ 93) → hsBra s < m := by
    intro m hm
    rcases HB with ⟨e, _⟩ | ⟨i, hi, e2, e3, q⟩
    · have : hsBra s = -1 := e; omega
    · have : hsBra s = i := e2
      by_cases hbi : m ≤ i
      · exact absurd e3 (hm i hbi hi)
      · omega
  have bra_m1 : -1 ≤ hsBra s := by
    rcases HB with ⟨e, _⟩ | ⟨i, hi, e2, e3, q⟩
    · have : hsBra s = -1 := e; omega
    · have : hsBra s = i := e2; omega
  have col_at : ∀ k, k < s.size → bt s k = 58 → (∀ j, k < j → j < s.size → bt s j ≠ 58) → hsCol s = k := by
    intro k hk e hj
    rcases HC with ⟨_, q⟩ | ⟨i, hi, e2, e3, q⟩
    · exact absurd e (q k hk)
    · have : hsCol s = i := e2
      have : i = k := by
        rcases Nat.lt_trichotomy i k with h | h | h
        · exact absurd e (q k h hk)
        · exact h
        · exact absurd e3 (hj i h hi)
      omega
  have digs_free : ∀ k, hsDigs (hsFrom s (k + 1)) = true → ∀ j, k < j → j < s.size → bt s j ≠ 58 ∧ bt s j ≠ 93 := by
    intro k hd j h1 h2
    have := (digs_iff.1 hd).2 (j - (k + 1)) (by rw [hsFrom_size]; omega)
    rw [hsFrom_bt s (k + 1) _ (by omega), show k + 1 + (j - (k + 1)) = j by omega] at this
    refine ⟨fun e => ?_, fun e => ?_⟩ <;> rw [e] at this <;> revert this <;> decide
  cases h with
  | lit0 n g0 g1 g2 g3 g4 g5 g6 =>
    right; right
    refine ⟨fail ⟨fun c hc hcs hc58 _ _ => ?_, fun _ => ?_⟩, by omega, by omega, .inl rfl⟩
    · right
      have hc0 : 0 < c := by
        rcases Nat.eq_zero_or_pos c with e | e
        · subst e; omega
        · exact e
      rw [← Bool.not_eq_true, hsNamed_up_lit hc0 (by omega) g1]
      rintro ⟨q1, q2, q3⟩
      have hn : n = c - 1 := by
        rcases Nat.lt_trichotomy n (c - 1) with h | h | h
        · rcases g5 with h5 | h5
          · omega
          · rw [q3 n g2 h] at h5; cases h5
        · exact h
        · have := g4 (c - 1) (by omega) h; rw [q2] at this; cases this
      subst hn
      rcases g6 with h | h | h
      · omega
      · omega
      · exact h q2
    · rw [← Bool.not_eq_true, hsNamed_lit g0 g1]
      rintro ⟨q1, q2, q3⟩
      have hn : n = s.size - 1 := by
        rcases Nat.lt_trichotomy n (s.size - 1) with h | h | h
        · rcases g5 with h5 | h5
          · omega
          · rw [q3 n g2 h] at h5; cases h5
        · exact h
        · have := g4 (s.size - 1) (by omega) h; rw [q2] at this; cases this
      subst hn
      rcases g6 with h | h | h
      · omega
      · omega
      · exact h q2
  | lit n g0 g1 g2 g3 g4 g5 =>
    have hbn := bra_ge n g3 g5
    have inner : ∀ c : Nat, n + 1 < c → c ≤ s.size → hsNamed (hsUp s c) = false := by
      intro c h1 h2
      rw [← Bool.not_eq_true, hsNamed_up_lit (by omega) h2 g1]
      rintro ⟨_, _, q3⟩
      have := q3 n (by omega) (by omega)
      rw [g5] at this; cases this
    have innerS : n + 1 < s.size → hsNamed s = false := by
      intro h1
      rw [← Bool.not_eq_true, hsNamed_lit g0 g1]
      rintro ⟨_, _, q3⟩
      have := q3 n (by omega) (by omega)
      rw [g5] at this; cases this
    by_cases hk : n + 1 = s.size
    · left
      refine ⟨?_, ?_, hk⟩
      · unfold hsHas
        rw [decide_eq_false_iff_not]
        rcases HC with ⟨e, _⟩ | ⟨i, hi, e2, e3, q⟩
        · have : hsCol s = -1 := e; omega
        · have : hsCol s = i := e2; omega
      · rw [hsNamed_lit g0 g1]
        refine ⟨by omega, by rw [← hk]; simpa using g5, fun j h1 h2 => g4 j h1 (by omega)⟩
    · by_cases h58 : bt s (n + 1) = 58 ∧ hsDigs (hsFrom s (n + 1 + 1)) = true
      · right; left
        obtain ⟨h58, hd⟩ := h58
        have hf := digs_free (n + 1) hd
        have hcol := col_at (n + 1) (by omega) h58 (fun j a b => (hf j a b).1)
        have hbra := bra_lt (n + 1) (fun j a b => by
          by_cases e : j = n + 1
          · rw [e, h58]; decide
          · exact (hf j (by omega) b).2)
        refine ⟨decide_eq_true (by omega), hcol, by omega, by omega, h58, hd, ?_⟩
        rw [hsNamed_up_lit (by omega) (by omega) g1]
        exact ⟨by omega, by simpa using g5, fun j h1 h2 => g4 j h1 (by omega)⟩
      · right; right
        refine ⟨fail ⟨fun c hc hcs hc58 hlast hbc => ?_, fun _ => innerS (by omega)⟩, by omega, by omega, .inr ?_⟩
        · by_cases e : c = n + 1
          · subst e
            left
            cases hd : hsDigs (hsFrom s (n + 1 + 1))
            · rfl
            · exact absurd ⟨hc58, hd⟩ h58
          · right; exact inner c (by omega) (by omega)
        · by_cases e : bt s (n + 1) = 58
          · right
            refine ⟨e, ?_⟩
            cases hd : hsDigs (hsFrom s (n + 1 + 1))
            · rfl
            · exact absurd ⟨e, hd⟩ h58
          · exact .inl e
  | whole g1 g2 =>
    left
    have hfull : s.data.toList.take s.size = s.data.toList := List.take_of_length_le (by rw [← ba_size]; omega)
    have hf := hsRun_free (s := s) (k := s.size) (Nat.le_refl _) (by rw [hfull, g2]; simp)
    refine ⟨?_, (hsNamed_nm g1).2 ⟨h0, g2⟩, rfl⟩
    unfold hsHas
    rw [decide_eq_false_iff_not]
    rcases HC with ⟨e, _⟩ | ⟨i, hi, e2, e3, q⟩
    · have : hsCol s = -1 := e; omega
    · exact absurd e3 (hf i hi).1
  | bad n g1 g2 g3 g4 g5 =>
    right; right
    have no : ∀ m, n < m → m ≤ s.size → hsRun (s.data.toList.take m) ≠ some 0 := by
      intro m h1 h2 hr
      obtain ⟨q1, q2, q3⟩ := hsRun_pct g2 g3 g4 h1 h2 hr
      rcases g5 with h | h | h
      · omega
      · rw [q2] at h; cases h
      · rw [q3] at h; cases h
    have hfull : s.data.toList.take s.size = s.data.toList := List.take_of_length_le (by rw [← ba_size]; omega)
    have hfr := hsRun_free (s := s) (k := n) (by omega) (by rw [g3]; simp)
    refine ⟨fail ⟨fun c hc hcs hc58 _ _ => ?_, fun _ => ?_⟩, by omega, by omega, .inl rfl⟩
    · right
      rw [← Bool.not_eq_true, hsNamed_up_nm (by omega) (.inr g1)]
      rintro ⟨q1, q2⟩
      have : n < c := by
        rcases Nat.lt_trichotomy n c with h | h | h
        · exact h
        · subst h; omega
        · exact absurd hc58 (hfr c h).1
      exact no c this (by omega) q2
    · rw [← Bool.not_eq_true, hsNamed_nm (.inr g1)]
      rintro ⟨q1, q2⟩
      exact no s.size g2 (Nat.le_refl _) (by rw [hfull]; exact q2)
  | stop _ g1 g2 g3 g4 g5 =>
    have hfull : s.data.toList.take s.size = s.data.toList := List.take_of_length_le (by rw [← ba_size]; omega)
    have hfr := hsRun_free (s := s) (k := k) (by omega) (by rw [g3]; simp)
    have no : ∀ m, k < m → hsRun (s.data.toList.take m) = none := fun m h => hsRun_stop g2 g3 g4 g5 h
    have noS : hsNamed s = false := by
      rw [← Bool.not_eq_true, hsNamed_nm (.inr g1)]
      rintro ⟨q1, q2⟩
      have := no s.size g2
      rw [hfull, q2] at this; cases this
    have noU : ∀ c, k < c → c ≤ s.size → hsNamed (hsUp s c) = false := by
      intro c h1 h2
      rw [← Bool.not_eq_true, hsNamed_up_nm (by omega) (.inr g1)]
      rintro ⟨q1, q2⟩
      rw [no c h1] at q2; cases q2
    by_cases hk : k = 0
    · subst hk
      right; right
      refine ⟨fail ⟨fun c hc hcs hc58 _ _ => ?_, fun _ => noS⟩, by omega, by omega, .inl rfl⟩
      right
      by_cases e : c = 0
      · subst e
        rw [← Bool.not_eq_true, hsNamed_up_nm (by omega) (.inl rfl)]
        rintro ⟨q1, _⟩
        omega
      · exact noU c (by omega) (by omega)
    · by_cases h58 : bt s k = 58 ∧ hsDigs (hsFrom s (k + 1)) = true
      · right; left
        obtain ⟨h58, hd⟩ := h58
        have hf := digs_free k hd
        have hcol := col_at k g2 h58 (fun j a b => (hf j a b).1)
        have hbra : hsBra s < (0 : Nat) := bra_lt 0 (fun j a b => by
          rcases Nat.lt_trichotomy j k with h | h | h
          · exact (hfr j h).2
          · rw [h, h58]; decide
          · exact (hf j h b).2)
        refine ⟨decide_eq_true (by omega), hcol, by omega, g2, h58, hd, ?_⟩
        rw [hsNamed_up_nm (by omega) (.inr g1)]
        exact ⟨by omega, g3⟩
      · right; right
        refine ⟨fail ⟨fun c hc hcs hc58 hlast hbc => ?_, fun _ => noS⟩, by omega, by omega, .inr ?_⟩
        · rcases Nat.lt_trichotomy c k with h | h | h
          · exact absurd hc58 (hfr c h).1
          · subst h
            left
            cases hd : hsDigs (hsFrom s (c + 1))
            · rfl
            · exact absurd ⟨hc58, hd⟩ h58
          · right; exact noU c h (by omega)
        · by_cases e : bt s k = 58
          · right
            refine ⟨e, ?_⟩
            cases hd : hsDigs (hsFrom s (k + 1))
            · rfl
            · exact absurd ⟨e, hd⟩ h58
          · exact .inl e
end Go.Proofs.YtggnnaafkekihaaDoor
namespace Go.Proofs.YtggnnaafkekihaaDoor
open Go.RowKit
set_option linter.unusedVariables false
set_option linter.unusedSimpArgs false

theorem hsHex_low : ∀ n, n < 256 → hsHex (lowN n) = hsHex n := by decide +kernel
theorem hsNm_low : ∀ n, n < 256 → hsNm (lowN n) = hsNm n := by decide +kernel
theorem hsLit_low : ∀ n, n < 256 → hsLit (lowN n) = hsLit n := by decide +kernel
theorem low_37 : ∀ n, n < 256 → (lowN n = 37 ↔ n = 37) := by decide +kernel
theorem low_91 : ∀ n, n < 256 → (lowN n = 91 ↔ n = 91) := by decide +kernel
theorem low_93 : ∀ n, n < 256 → (lowN n = 93 ↔ n = 93) := by decide +kernel
theorem hsStep_low (o : Option Nat) (c : UInt8) : hsStep o (lowC c) = hsStep o c := by
  have h := UInt8.toNat_lt c
  cases o with
  | none => rfl
  | some l => simp only [hsStep, lowC_toNat, hsHex_low _ h, hsNm_low _ h, low_37 _ h]
theorem hsFold_low : ∀ (l : List UInt8) (o : Option Nat), (lowL l).foldl hsStep o = l.foldl hsStep o
  | [], _ => rfl
  | c :: l, o => by
    show (lowL l).foldl hsStep (hsStep o (lowC c)) = l.foldl hsStep (hsStep o c)
    rw [hsStep_low, hsFold_low l]
theorem hsRun_low (l : List UInt8) : hsRun (lowL l) = hsRun l := hsFold_low l _
theorem lowB_list (s : ByteArray) : (lowB s).data.toList = lowL s.data.toList := by simp [lowB]
theorem lowB_bt (s : ByteArray) (j : Nat) (h : j < s.size) : bt (lowB s) j = lowN (bt s j) := by
  rw [← bt_list (lowB s) j (by rw [lowB_size]; exact h), ← bt_list s j h]
  simp only [lowB_list, lowL, List.getElem_map, lowC_toNat]
theorem hsNamed_lowB (s : ByteArray) : hsNamed (lowB s) = hsNamed s := by
  have hz := lowB_size s
  by_cases h0 : 0 < s.size
  · have hb := lowB_bt s 0 h0
    by_cases h1 : bt s 0 = 91
    · have h2 : bt (lowB s) 0 = 91 := by rw [hb]; exact (low_91 _ (bt_lt s 0)).2 h1
      rw [Bool.eq_iff_iff, hsNamed_lit (by omega) h2, hsNamed_lit h0 h1, hz]
      constructor
      · rintro ⟨a, b, c⟩
        refine ⟨a, ?_, fun j h3 h4 => ?_⟩
        · rw [lowB_bt s _ (by omega)] at b; exact (low_93 _ (bt_lt _ _)).1 b
        · have := c j h3 h4
          rw [lowB_bt s _ (by omega), hsLit_low _ (bt_lt _ _)] at this; exact this
      · rintro ⟨a, b, c⟩
        refine ⟨a, ?_, fun j h3 h4 => ?_⟩
        · rw [lowB_bt s _ (by omega)]; exact (low_93 _ (bt_lt _ _)).2 b
        · rw [lowB_bt s _ (by omega), hsLit_low _ (bt_lt _ _)]; exact c j h3 h4
    · have h2 : bt (lowB s) 0 ≠ 91 := by rw [hb]; exact fun e => h1 ((low_91 _ (bt_lt s 0)).1 e)
      rw [Bool.eq_iff_iff, hsNamed_nm (.inr h2), hsNamed_nm (.inr h1), hz, lowB_list, hsRun_low]
  · have : s = ⟨#[]⟩ := ba_ext (List.length_eq_zero_iff.1 (by rw [← ba_size]; omega))
    subst this; rfl

def hsColon (d : ByteArray) : ByteArray := ⟨#[58]⟩ ++ d
theorem hsColon_size (d : ByteArray) : (hsColon d).size = 1 + d.size := by unfold hsColon; rw [ByteArray.size_append]; rfl
/-- P11.3. -/
def hsTxt (nm : ByteArray) (p : Int) : ByteArray := if p = 80 then lowB nm else lowB nm ++ hsColon (ofL (textL p))
def hsK (s : ByteArray) : ByteArray := if hsE s = 0 then hsTxt (hsN s) (hsP s) else ⟨#[]⟩

theorem hsNm_whole {a : ByteArray} (h : hsNamed a = true) : HsNm a a.size := by
  by_cases h1 : 0 < a.size ∧ bt a 0 = 91
  · obtain ⟨h0, h1⟩ := h1
    obtain ⟨q1, q2, q3⟩ := (hsNamed_lit h0 h1).1 h
    have := HsNm.lit (a.size - 1) h0 h1 (by omega) (by omega) q3 q2
    rwa [show a.size - 1 + 1 = a.size by omega] at this
  · have h2 : a.size = 0 ∨ bt a 0 ≠ 91 := by
      by_cases e : a.size = 0
      · exact .inl e
      · exact .inr fun q => h1 ⟨by omega, q⟩
    exact .whole h2 ((hsNamed_nm h2).1 h).2
theorem app_bt (a b : ByteArray) (j : Nat) (h : j < a.size) : bt (a ++ b) j = bt a j := by
  rw [← bt_list (a ++ b) j (by rw [ByteArray.size_append]; omega), ← bt_list a j h]
  simp only [ByteArray.data_append, Array.toList_append]
  rw [List.getElem_append_left]
theorem app_bt2 (a b : ByteArray) (j : Nat) (h : j < b.size) : bt (a ++ b) (a.size + j) = bt b j := by
  rw [← bt_list (a ++ b) (a.size + j) (by rw [ByteArray.size_append]; omega), ← bt_list b j h]
  simp only [ByteArray.data_append, Array.toList_append]
  rw [List.getElem_append_right (by rw [← ba_size]; omega)]
  congr 2
  rw [← ba_size]; omega
theorem hsNm_colon {a d : ByteArray} (h : hsNamed a = true) : HsNm (a ++ hsColon d) a.size := by
  have hsz : (a ++ hsColon d).size = a.size + 1 + d.size := by rw [ByteArray.size_append, hsColon_size]; omega
  have h58 : bt (a ++ hsColon d) a.size = 58 := by
    have := app_bt2 a (hsColon d) 0 (by rw [hsColon_size]; omega)
    rw [Nat.add_zero] at this
    rw [this]
    unfold hsColon
    rw [app_bt _ _ 0 (by show 0 < 1; omega)]; rfl
  have ht : (a ++ hsColon d).data.toList.take a.size = a.data.toList := by
    rw [ByteArray.data_append, Array.toList_append, List.take_left' (by rw [← ba_size])]
  by_cases h1 : 0 < a.size ∧ bt a 0 = 91
  · obtain ⟨h0, h1⟩ := h1
    obtain ⟨q1, q2, q3⟩ := (hsNamed_lit h0 h1).1 h
    have := HsNm.lit (s := a ++ hsColon d) (a.size - 1) (by omega) (by rw [app_bt _ _ 0 h0]; exact h1) (by omega) (by omega) (fun j g1 g2 => by rw [app_bt _ _ j (by omega)]; exact q3 j g1 g2) (by rw [app_bt _ _ _ (by omega)]; exact q2)
    rwa [show a.size - 1 + 1 = a.size by omega] at this
  · have h2 : a.size = 0 ∨ bt a 0 ≠ 91 := by
      by_cases e : a.size = 0
      · exact .inl e
      · exact .inr fun q => h1 ⟨by omega, q⟩
    obtain ⟨q1, q2⟩ := (hsNamed_nm h2).1 h
    exact .stop _ (by rw [app_bt _ _ 0 q1]; exact h2.resolve_left (by omega)) (by omega) (by rw [ht]; exact q2) (by rw [h58]; decide) (by rw [h58]; rfl)
theorem hsE_named {s : ByteArray} (h : hsE s = 0) : 0 < s.size ∧ hsNamed (hsName s) = true ∧ (hsHas s = true → hsDigs (hsNum s) = true ∧ numE 10 (hsNum s) 65535 = 0) := by
  unfold hsE at h
  split at h
  · cases h
  · rename_i h0
    split at h
    · cases h
    · rename_i h1
      split at h
      · cases h
      · rename_i h2
        refine ⟨by omega, by simpa using h2, fun hh => ?_⟩
        rw [if_pos hh] at h
        refine ⟨?_, h⟩
        cases hd : hsDigs (hsNum s)
        · exact absurd ⟨hh, hd⟩ h1
        · rfl
theorem hsP_range (s : ByteArray) : 0 ≤ hsP s ∧ hsP s ≤ 65535 := by
  unfold hsP
  split
  · rename_i h
    split
    · rename_i hh
      obtain ⟨h1, h2⟩ := (hsE_named h).2.2 hh
      obtain ⟨d1, d2⟩ := digs_iff.1 h1
      by_cases hb : (65535 : Int) < valN 10 (hsNum s).data.toList
      · have := (num_great (by omega) d2 hb).1
        rw [h2] at this; cases this
      · have := (num_fits (most := 65535) (by omega) d2 (by omega)).2
        omega
    · omega
  · omega
theorem hs_back {nm : ByteArray} {p : Int} (h : hsNamed nm = true) (h0 : 0 ≤ p) (h1 : p ≤ 65535) : hsE (hsTxt nm p) = 0 ∧ hsN (hsTxt nm p) = lowB nm ∧ hsP (hsTxt nm p) = p := by
  have hl : hsNamed (lowB nm) = true := by rw [hsNamed_lowB]; exact h
  have hpos : 0 < (lowB nm).size := by
    by_cases e : 0 < (lowB nm).size
    · exact e
    · rw [hsNamed_nm (.inl (by omega))] at hl; exact absurd hl.1 e
  by_cases h80 : p = 80
  · have et : hsTxt nm p = lowB nm := by unfold hsTxt; rw [if_pos h80]
    rw [et]
    rcases host_eq (hsNm_whole hl) hpos with ⟨a, b, _⟩ | ⟨_, _, _, q, _⟩ | ⟨_, _, q, _⟩
    · have hn : hsName (lowB nm) = lowB nm := by unfold hsName; rw [a]; rfl
      have hE : hsE (lowB nm) = 0 := by
        unfold hsE
        rw [if_neg (by omega), if_neg (by rw [a]; simp), hn, if_neg (by rw [b]; simp), if_neg (by rw [a]; simp)]
      refine ⟨hE, ?_, ?_⟩
      · unfold hsN; rw [hE, if_pos rfl, hn]
      · unfold hsP; rw [hE, if_pos rfl, if_neg (by rw [a]; simp), h80]
    · omega
    · omega
  · have et : hsTxt nm p = lowB nm ++ hsColon (ofL (textL p)) := by unfold hsTxt; rw [if_neg h80]
    have etx : textL p = wdig 10 1 p.toNat := by unfold textL; rw [if_neg (by omega)]
    have hb := (num_back 10 1 p.toNat 65535 (by omega) (by omega) (by omega) (by omega)).1 (by omega)
    rw [← etx] at hb
    have hdig : hsDigs (ofL (textL p)) = true := by
      cases hd : hsDigs (ofL (textL p))
      · rcases numE_no (m := 65535) hd with e | e <;> rw [hb.2] at e <;> cases e
      · rfl
    generalize hD : ofL (textL p) = d at *
    rw [et]
    have hsz : (lowB nm ++ hsColon d).size = (lowB nm).size + 1 + d.size := by rw [ByteArray.size_append, hsColon_size]; omega
    have hfrom : hsFrom (lowB nm ++ hsColon d) ((lowB nm).size + 1) = d := by
      refine ba_ext ?_
      rw [hsFrom_list, ByteArray.data_append, Array.toList_append]
      unfold hsColon
      rw [ByteArray.data_append, Array.toList_append, ← List.append_assoc, List.drop_left' (by rw [List.length_append, ← ba_size]; rfl)]
    have hup : hsUp (lowB nm ++ hsColon d) (lowB nm).size = lowB nm := by
      refine ba_ext ?_
      rw [hsUp_list, ByteArray.data_append, Array.toList_append, List.take_left' (by rw [← ba_size])]
    rcases host_eq (hsNm_colon (d := d) hl) (by omega) with ⟨_, _, q⟩ | ⟨a, b, _, _, _, c, e⟩ | ⟨_, _, _, q⟩
    · omega
    · have hnm : hsName (lowB nm ++ hsColon d) = lowB nm := by unfold hsName; rw [if_pos a, b, Int.toNat_natCast, hup]
      have hnu : hsNum (lowB nm ++ hsColon d) = d := by unfold hsNum; rw [if_pos a, b, Int.toNat_natCast, hfrom]
      have hE : hsE (lowB nm ++ hsColon d) = 0 := by
        unfold hsE
        rw [if_neg (by omega), hnu, if_neg (by rw [hdig]; simp), hnm, if_neg (by rw [hl]; simp), if_pos a, hb.2]
      refine ⟨hE, ?_, ?_⟩
      · unfold hsN; rw [hE, if_pos rfl, hnm]
      · unfold hsP; rw [hE, if_pos rfl, if_pos a, hnu, hb.1]; omega
    · rcases q with q | q | ⟨_, q⟩
      · omega
      · exfalso
        have := hsNm_colon (d := d) hl
        have h58 : bt (lowB nm ++ hsColon d) (lowB nm).size = 58 := by
          have := app_bt2 (lowB nm) (hsColon d) 0 (by rw [hsColon_size]; omega)
          rw [Nat.add_zero] at this
          rw [this]
          unfold hsColon
          rw [app_bt _ _ 0 (by show 0 < 1; omega)]; rfl
        exact q h58
      · rw [hfrom, hdig] at q; cases q
theorem low_low_txt (nm : ByteArray) (p : Int) : hsTxt (lowB nm) p = hsTxt nm p := by unfold hsTxt; rw [lowB_lowB]
/-- P11.4: a key is its own key. -/
theorem hs_key {s : ByteArray} (h : hsE s = 0) : hsE (hsK s) = 0 ∧ hsK (hsK s) = hsK s := by
  obtain ⟨_, h1, _⟩ := hsE_named h
  obtain ⟨p0, p1⟩ := hsP_range s
  have hn : hsN s = hsName s := by unfold hsN; rw [if_pos h]
  obtain ⟨b1, b2, b3⟩ := hs_back (nm := hsN s) (p := hsP s) (by rw [hn]; exact h1) p0 p1
  have e : hsK s = hsTxt (hsN s) (hsP s) := by unfold hsK; rw [if_pos h]
  rw [e]
  refine ⟨b1, ?_⟩
  unfold hsK
  rw [if_pos b1, b2, b3, low_low_txt]
end Go.Proofs.YtggnnaafkekihaaDoor
