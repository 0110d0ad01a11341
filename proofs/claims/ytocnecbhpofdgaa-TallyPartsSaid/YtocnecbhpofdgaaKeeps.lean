/- Layer 1: what the document's own answers for octets come to. · Layer 1: Trim, as the document's answer has it. · Layer 1: the program's own functions on octets. · Layer 1: Lower, Fold and Trim of the program. · Layer 1: Fold of the program. · Layer 1: Trim of the program. · Layer 1: the document's examples hold. · Layer 1: the walks of the three laws. · Layer 1: the walk of the law OctetKeeps. -/
import Derived.Test.YtocnecbhpofdgaaProg
import Derived.Test.YtocnecbhpofdgaaPb
import Derived.WalkSpells
import Derived.WalkLawsBesides
import Derived.Deep.Light
import Derived.Lib.TrimU
import Derived.Lib.ConvBytes
import Derived.Lib.SliceRun
import Derived.Deep.QuietTactic
import Derived.BigQuiet
import Derived.OpenShut
import Derived.Deep.DeepCutAuto
namespace Go.Proofs.Ytocnecbhpofdgaa
open Go.RowKit
set_option linter.unusedVariables false
set_option linter.unusedSimpArgs false



theorem other_cases (n : Int) (h0 : 0 ≤ n) (ho : otherB n.toNat = true) : n < 48 ∨ (58 ≤ n ∧ n < 65) ∨ (91 ≤ n ∧ n < 97) ∨ 123 ≤ n := by
  simp [otherB] at ho; omega
theorem alnum_cases (n : Int) (h0 : 0 ≤ n) (ho : otherB n.toNat = false) : (48 ≤ n ∧ n ≤ 57) ∨ (65 ≤ n ∧ n ≤ 90) ∨ (97 ≤ n ∧ n ≤ 122) := by
  simp [otherB] at ho; omega

theorem Try.infoB : (Try.prog.info? 5).map (fun i => (i.zero, i.size, i.bytes)) = some (some (.int .u8 0), 1, 1) := by kernel_rfl

set_option maxHeartbeats 400000 in
theorem ref_lower_any (s : ByteArray) (w : World) (hs : s.size ≤ 140737488351232) :
    Calls Try.prog 36 #[.string s] w fun e w' => e = .returned (.string (lowB s)) ∧ Below w.heap.size w w' := by
  go_enter Try.func36, Try.ntmps36
  go_wp2
  go_loopw [3, 4] (fun v i wr => ∃ k : Nat, k ≤ s.size ∧ i = .int .i64 k ∧ wr.ownsRow w.heap.size 5 1 v (lowL (s.data.toList.take k)).length (bv (lowL (s.data.toList.take k))) ∧ Below w.heap.size w wr) (fun _ i _ => s.size - (intOf i).toNat)
  case atStart => exact ⟨0, by omega, rfl, World.ownsRow_made _ _ 0 (Nat.le_refl _) (by unfold maxLen; omega) rfl, (Below.refl _ _).alloc (Nat.le_refl _) _⟩
  case round =>
    obtain ⟨k, hk, rfl, hown, hbel⟩ := hrel
    have hll : (lowL (s.data.toList.take k)).length ≤ k := by rw [lowL_length, List.length_take]; omega
    have hsz := hbel.size
    by_cases hlt : k < s.size
    · have hts := lowL_take s k hlt
      have HT := Lib.hid hts
      clear hts
      by_cases hu : 65 ≤ s[k].toNat ∧ s[k].toNat ≤ 90
      · obtain ⟨hu1, hu2⟩ := hu
        have hc : (s[k].toNat : Int) + 32 = ((lowC s[k]).toNat : Int) := by rw [lowC_toNat, lowN, if_pos ⟨hu1, hu2⟩]; simp
        have HC := Lib.hid hc
        clear hc
        go_wp2_with (at_builtin; refine app_byte rfl _ _ _ _ rfl Try.underlying91 Try.infoB w.heap.size _ _ rfl hown (lowC s[k]) _ HC.out rfl (by omega) hsz ?_; intro v' w' hown' hb' _)
        go_roundw
        case rel => exact ⟨k + 1, by omega, by go_num, by rw [HT.out]; exact hown', hbel.trans hb'⟩
        case measure => simp [intOf]; omega
      · have hu' : s[k].toNat < 65 ∨ 90 < s[k].toNat := by omega
        have hc : (s[k].toNat : Int) = ((lowC s[k]).toNat : Int) := by rw [lowC_toNat, lowN, if_neg hu]
        have HC := Lib.hid hc
        clear hc hu
        rcases hu' with hu | hu
        all_goals
          go_wp2_with (at_builtin; refine app_byte rfl _ _ _ _ rfl Try.underlying91 Try.infoB w.heap.size _ _ rfl hown (lowC s[k]) _ HC.out rfl (by omega) hsz ?_; intro v' w' hown' hb' _)
          go_roundw
          case rel => exact ⟨k + 1, by omega, by go_num, by rw [HT.out]; exact hown', hbel.trans hb'⟩
          case measure => simp [intOf]; omega
    · have hcv := own_string (src := 91) (dst := 9) Try.underlying91 Try.underlying5 Try.underlying9 hown
      have hka : s.data.toList.take k = s.data.toList := List.take_of_length_le (by simp; omega)
      have HK := Lib.hid hka
      clear hka
      go_wp2
      go_ret
      exact ⟨by rw [HK.out]; rfl, hbel⟩
end Go.Proofs.Ytocnecbhpofdgaa
namespace Go.Proofs.Ytocnecbhpofdgaa
open Go.RowKit
set_option linter.unusedVariables false
set_option linter.unusedSimpArgs false

set_option maxHeartbeats 400000 in
theorem ref_trim_any (s : ByteArray) (w : World) (hs : s.size ≤ maxLen) :
    Calls Try.prog 51 #[.string s] w fun e w' => e = .returned (.string (trimB s)) ∧ w = w' := by
  unfold maxLen at hs
  go_enter Try.func51, Try.ntmps51
  go_wp2
  go_loop [0] (fun v => ∃ (x : ByteArray) (p : List UInt8), v = .string x ∧ s.data.toList = p ++ x.data.toList ∧ ∀ c ∈ p, blankC c = true) (fun v => szOf v)
  case atStart => exact ⟨s, [], rfl, rfl, by simp⟩
  case round =>
    obtain ⟨x, p, rfl, hx, hp⟩ := hrel
    have hxs : x.size ≤ s.size := by rw [ba_size, ba_size, hx]; simp
    have HX := Lib.hid hx
    have HP := Lib.hid hp
    clear hx hp
    by_cases hgo : ∃ c r, x.data.toList = c :: r ∧ blankC c = true
    · obtain ⟨c, r, hl, hc⟩ := hgo
      have h0 : 0 < x.size := by rw [ba_len hl]; simp
      have hb := bt_cons hl
      rw [← bt_at x 0 h0] at hb
      have he : (x.extract 1 x.size).data.toList = r := by rw [Lib.extract_to_end, hl]; rfl
      have hes : (x.extract 1 x.size).size < x.size := by rw [ba_len he, ba_len hl]; simp
      have HE := Lib.hid he
      have HLx := Lib.hid hl
      have HC := Lib.hid hc
      have HES := Lib.hid hes
      clear hl he hes
      simp [blankC, blankN] at hc
      rcases hc with hc | hc
      · have h1 : ((x[0].toNat : Int) == 32) = true := by rw [hb, hc]; rfl
        clear hb hc
        go_wp2
        go_round
        case rel => exact ⟨_, p ++ [c], rfl, by rw [HE.out, HX.out, HLx.out]; simp, fun d hd => (List.mem_append.1 hd).elim (HP.out d) (fun h => by rw [List.mem_singleton.1 h]; exact HC.out)⟩
        case measure => exact HES.out
      · have h1 : ((x[0].toNat : Int) == 32) = false := by rw [hb, hc]; rfl
        have h2 : ((x[0].toNat : Int) == 9) = true := by rw [hb, hc]; rfl
        clear hb hc
        go_wp2
        go_round
        case rel => exact ⟨_, p ++ [c], rfl, by rw [HE.out, HX.out, HLx.out]; simp, fun d hd => (List.mem_append.1 hd).elim (HP.out d) (fun h => by rw [List.mem_singleton.1 h]; exact HC.out)⟩
        case measure => exact HES.out
    · have hex : x.data.toList = [] ∨ ∃ c r, x.data.toList = c :: r ∧ blankC c = false := by
        cases hl : x.data.toList with
        | nil => exact .inl rfl
        | cons c r =>
          cases hc : blankC c
          · exact .inr ⟨c, r, rfl, hc⟩
          · exact absurd ⟨c, r, hl, hc⟩ hgo
      have HEX := Lib.hid hex
      clear hgo
      have hcase : x.size = 0 ∨ ∃ h : 0 < x.size, ((x[0].toNat : Int) == 32) = false ∧ ((x[0].toNat : Int) == 9) = false := by
        rcases hex with hl | ⟨c, r, hl, hc⟩
        · left; rw [ba_len hl]; rfl
        · right
          have h0 : 0 < x.size := by rw [ba_len hl]; simp
          have hb := bt_cons hl
          rw [← bt_at x 0 h0] at hb
          simp [blankC, blankN] at hc
          refine ⟨h0, ?_, ?_⟩ <;> (rw [hb]; simp; omega)
      clear hex
      rcases hcase with h0 | ⟨h0, h1, h2⟩
      all_goals
        go_wp2
        go_loop [0] (fun v => ∃ (y : ByteArray) (q : List UInt8), v = .string y ∧ x.data.toList = y.data.toList ++ q ∧ ∀ c ∈ q, blankC c = true) (fun v => szOf v)
        case atStart => exact ⟨x, [], rfl, by simp, by simp⟩
        case round =>
          obtain ⟨y, q, rfl, hy, hq⟩ := hrel
          have hys : y.size ≤ x.size := by rw [ba_size, ba_size, hy]; simp
          have HY := Lib.hid hy
          have HQ := Lib.hid hq
          clear hy hq
          by_cases hgo : ∃ r c, y.data.toList = r ++ [c] ∧ blankC c = true
          · obtain ⟨r, c, hl, hc⟩ := hgo
            have g0 : 0 < y.size := by rw [ba_len hl]; simp
            have hb := bt_snoc hl
            rw [← bt_at y (y.size - 1) (by omega)] at hb
            have he : (y.extract 0 (y.size - 1)).data.toList = r := by rw [Lib.extract_data, hl, ba_len hl]; simp
            have hes : (y.extract 0 (y.size - 1)).size < y.size := by rw [ba_len he, ba_len hl]; simp
            have HE := Lib.hid he
            have HLx := Lib.hid hl
            have HC := Lib.hid hc
            have HES := Lib.hid hes
            clear hl he hes
            simp [blankC, blankN] at hc
            rcases hc with hc | hc
            · have e1 : ((y[y.size - 1].toNat : Int) == 32) = true := by rw [hb, hc]; rfl
              clear hb hc
              go_wp2
              all_goals go_round
              all_goals try case rel => exact ⟨_, c :: q, rfl, by rw [HE.out, HY.out, HLx.out]; simp, fun d hd => (List.mem_cons.1 hd).elim (fun h => by rw [h]; exact HC.out) (HQ.out d)⟩
              all_goals exact HES.out
            · have e1 : ((y[y.size - 1].toNat : Int) == 32) = false := by rw [hb, hc]; rfl
              have e2 : ((y[y.size - 1].toNat : Int) == 9) = true := by rw [hb, hc]; rfl
              clear hb hc
              go_wp2
              all_goals go_round
              all_goals try case rel => exact ⟨_, c :: q, rfl, by rw [HE.out, HY.out, HLx.out]; simp, fun d hd => (List.mem_cons.1 hd).elim (fun h => by rw [h]; exact HC.out) (HQ.out d)⟩
              all_goals exact HES.out
          · have hey : y.data.toList = [] ∨ ∃ r c, y.data.toList = r ++ [c] ∧ blankC c = false := by
              rcases List.eq_nil_or_concat y.data.toList with h | ⟨r, c, h⟩
              · exact .inl h
              · cases hc : blankC c
                · exact .inr ⟨r, c, by rw [h, List.concat_eq_append], hc⟩
                · exact absurd ⟨r, c, by rw [h, List.concat_eq_append], hc⟩ hgo
            have HEY := Lib.hid hey
            clear hgo
            have hfin : y = trimB s := by
              refine ba_eq _ _ ?_
              have ht : Tidy y.data.toList := by
                rcases HEY.out with h | ⟨r, c, h, hc⟩
                · exact .inl h
                · right
                  refine ⟨?_, r, c, h, hc⟩
                  rcases HEX.out with h' | ⟨c', r', h', hc'⟩
                  · rw [HY.out, h] at h'; simp at h'
                  · rw [HY.out] at h'
                    cases hT : y.data.toList with
                    | nil => rw [hT] at h; simp at h
                    | cons a b => rw [hT] at h'; simp at h'; obtain ⟨rfl, _⟩ := h'; exact ⟨a, b, rfl, hc'⟩
              rw [HX.out, HY.out, ← List.append_assoc]
              exact (trimL_of HP.out HQ.out ht).symm
            have HF := Lib.hid hfin
            clear hfin
            have hcase2 : y.size = 0 ∨ ∃ h : 0 < y.size, ((y[y.size - 1].toNat : Int) == 32) = false ∧ ((y[y.size - 1].toNat : Int) == 9) = false := by
              rcases hey with hl | ⟨r, c, hl, hc⟩
              · left; rw [ba_len hl]; rfl
              · right
                have g0 : 0 < y.size := by rw [ba_len hl]; simp
                have hb := bt_snoc hl
                rw [← bt_at y (y.size - 1) (by omega)] at hb
                simp [blankC, blankN] at hc
                refine ⟨g0, ?_, ?_⟩ <;> (rw [hb]; simp; omega)
            clear hey
            rcases hcase2 with g0 | ⟨g0, e1, e2⟩
            all_goals
              go_wp2
            all_goals
              go_ret
              exact ⟨ret_str HF.out, rfl⟩
end Go.Proofs.Ytocnecbhpofdgaa
namespace Go.Proofs.Ytocnecbhpofdgaa
open Go.RowKit
set_option linter.unusedVariables false
set_option linter.unusedSimpArgs false

/-! ### What is asked of each rune -/
def runeTok (n : Int) : Bool := decide (n < 128) && tcharB n.toNat
def runeVal (n : Int) : Bool := n == 9 || (decide (32 ≤ n) && n != 127)
def runeVis (n : Int) : Bool := decide (33 ≤ n) && decide (n ≤ 126)

theorem runeTok_low (n : Nat) (h : n < 128) : runeTok (n : Int) = tcharB n := by
  have : (n : Int) < 128 := by omega
  simp [runeTok, this]
theorem runeTok_high (n : Nat) (h : 128 ≤ n) : runeTok (n : Int) = false := by
  have : ¬ (n : Int) < 128 := by omega
  simp [runeTok, this]
theorem runeVal_low (n : Nat) (h : n < 128) : runeVal (n : Int) = valueB n := by
  rw [Bool.eq_iff_iff]; simp [runeVal, valueB]; omega
theorem runeVal_high (n : Nat) (h : 128 ≤ n) : runeVal (n : Int) = true := by
  simp [runeVal]; omega
theorem runeVis_low (n : Nat) (h : n < 128) : runeVis (n : Int) = visB n := by
  rw [Bool.eq_iff_iff]; simp [runeVis, visB]; omega
theorem runeVis_high (n : Nat) (h : 128 ≤ n) : runeVis (n : Int) = false := by
  simp [runeVis]; omega
theorem valueB_high (n : Nat) (h : 128 ≤ n) : valueB n = true := by simp [valueB]; omega
theorem visB_high (n : Nat) (h : 128 ≤ n) : visB n = false := by simp [visB]; omega

theorem nonempty_of (s : ByteArray) (h : s.size ≠ 0) : s.data.toList.isEmpty = false := by
  cases hl : s.data.toList with
  | nil => rw [ba_len hl] at h; simp at h
  | cons a r => rfl

theorem tokenB_nil {s : ByteArray} (h : s.toList = []) : false = tokenB s := by
  rw [ByteArray.toList_eq] at h
  simp [tokenB, h]
theorem tokenB_eq (s : ByteArray) : (!s.toList.isEmpty && allB tcharB s) = tokenB s := by rw [tokenB, ByteArray.toList_eq]
theorem visibleB_nil {s : ByteArray} (h : s.toList = []) : false = visibleB s := by
  rw [ByteArray.toList_eq] at h
  simp [visibleB, h]
theorem visibleB_eq (s : ByteArray) : (!s.toList.isEmpty && allB visB s) = visibleB s := by rw [visibleB, ByteArray.toList_eq]

end Go.Proofs.Ytocnecbhpofdgaa
namespace Go.Proofs.Ytocnecbhpofdgaa
open Go.RowKit
set_option linter.unusedVariables false
set_option linter.unusedSimpArgs false

theorem bytesWorld_frozen (w : World) (e : TypeId) (s : ByteArray) (j : Nat) (hj : j < s.size) : (Lib.bytesWorld w e s).frozen? ⟨w.heap.size, j, none⟩ = false := by
  have h1 : s.size ≤ (Lib.bytesCells w e s).size := by simp [Lib.bytesCells]
  simp [World.frozen?, Lib.bytesWorld_at_new]
  omega
theorem bytesWorld_below (w : World) (e : TypeId) (s : ByteArray) : Below w.heap.size w (Lib.bytesWorld w e s) :=
  ⟨by simp [Lib.bytesWorld, World.freeze, World.alloc, World.drew, -World.alloc_eq, -World.drew_eq], by simp [Lib.bytesWorld, World.freeze, World.alloc, World.drew, -World.alloc_eq, -World.drew_eq], by simp [Lib.bytesWorld, World.freeze, World.alloc, World.drew, -World.alloc_eq, -World.drew_eq], by rw [Lib.bytesWorld_size]; omega, fun k hk => Lib.bytesWorld_at_old w e s k hk⟩

/-- The octets of s, the first p of them small, stand in block g. -/
structure LowRow (s : ByteArray) (p g : Nat) (wr : World) : Prop where
  cell : ∀ j, j < s.size → wr.cell? ⟨g, j, none⟩ = some (.int .u8 ((if j < p then lowN (bt s j) else bt s j : Nat) : Int))
  free : ∀ j, j < s.size → wr.frozen? ⟨g, j, none⟩ = false
  lt : g < wr.heap.size

theorem LowRow.made (s : ByteArray) (p : Nat) (w : World) (e : TypeId) (h : ∀ j, j < p → j < s.size → lowN (bt s j) = bt s j) : LowRow s p w.heap.size (Lib.bytesWorld w e s) := by
  refine ⟨fun j hj => ?_, fun j hj => bytesWorld_frozen w e s j hj, by rw [Lib.bytesWorld_size]; omega⟩
  rw [Lib.bytesWorld_cell w e s j hj]
  have e1 : (s.data.toList.getD j 0).toNat = bt s j := by
    rw [← bt_list s j hj]
    simp [List.getD, hj]
  rw [e1]
  split
  · rw [h j ‹_› hj]
  · rfl
theorem LowRow.stored {s : ByteArray} {p g : Nat} {wr : World} (h : LowRow s p g wr) (hp : p < s.size) : LowRow s (p + 1) g (wr.setCell ⟨g, p, none⟩ (.int .u8 (lowN (bt s p) : Nat))) := by
  refine ⟨fun j hj => ?_, fun j hj => by rw [World.frozen?_setCell]; exact h.free j hj, by simp [World.setCell]; exact h.lt⟩
  by_cases hjp : j = p
  · subst hjp
    rw [World.cell?_setCell_same _ _ _ (h.cell j hj), if_pos (by omega)]
  · rw [World.cell?_setCell_other _ _ _ _ (by simp [Ne.symm hjp]), h.cell j hj]
    by_cases hlt : j < p
    · rw [if_pos hlt, if_pos (by omega)]
    · rw [if_neg hlt, if_neg (by omega)]
theorem LowRow.kept {s : ByteArray} {p g : Nat} {w w' : World} (h : LowRow s p g w) (hg : w'.heap[g]? = w.heap[g]?) (hs : g < w'.heap.size) : LowRow s p g w' :=
  ⟨fun j hj => by rw [← h.cell j hj]; exact World.cell?_of_block hg, fun j hj => by rw [← h.free j hj]; exact World.frozen?_of_block hg, hs⟩
theorem LowRow.widen {s : ByteArray} {p p' g : Nat} {w : World} (h : LowRow s p g w) (hp : p ≤ p') (hl : ∀ j, p ≤ j → j < p' → j < s.size → lowN (bt s j) = bt s j) : LowRow s p' g w := by
  refine ⟨fun j hj => ?_, h.free, h.lt⟩
  rw [h.cell j hj]
  by_cases h1 : j < p
  · rw [if_pos h1, if_pos (by omega)]
  · rw [if_neg h1]
    by_cases h2 : j < p'
    · rw [if_pos h2, hl j (by omega) h2 hj]
    · rw [if_neg h2]

theorem LowRow.full {s : ByteArray} {p g : Nat} {w : World} (h : LowRow s p g w) (hp : ¬ p < s.size) : LowRow s s.size g w := by
  refine ⟨fun j hj => ?_, h.free, h.lt⟩
  rw [h.cell j hj, if_pos (by omega), if_pos hj]

/-- What Lower keeps from round to round. -/
def LowKeeps (s : ByteArray) (B : Nat) (v : Value) (wr : World) (pos : Nat) : Prop :=
  (v = .slice none 0 0 ∧ ∀ j, j < pos → j < s.size → lowN (bt s j) = bt s j) ∨ ∃ g cap, v = .slice (some ⟨g, 0, none⟩) s.size cap ∧ B < g ∧ LowRow s pos g wr

theorem lowB_same (s : ByteArray) (h : ∀ j, j < s.size → lowN (bt s j) = bt s j) : lowB s = s := by
  refine (ba_eq s _ ?_).symm
  apply List.ext_getElem
  · simp [lowL]
  · intro j h1 h2
    have hj : j < s.size := by simpa using h1
    have e := h j hj
    rw [← bt_list s j hj] at e
    simp only [lowL, List.getElem_map]
    apply UInt8.toNat_inj.1
    rw [lowC_toNat, e]

theorem lowB_row {P : Program} {s : ByteArray} {g cap : Nat} {wr : World} {src dst e : TypeId} (h : LowRow s s.size g wr) (hs : P.underlying src = some (.slice e)) (he : P.underlying e = some (.int .u8)) (hd : P.underlying dst = some .string) :
    (convert src dst (.slice (some ⟨g, 0, none⟩) s.size cap)).run P wr = .ok (.string (lowB s)) wr := by
  have hl : (lowL s.data.toList).length = s.size := by rw [lowL_length, ← ba_size]
  have := run_convert_bytes_back (P := P) wr src dst e ⟨g, 0, none⟩ cap (lowL s.data.toList) hs he hd fun j hj => by
    have hj' : j < s.size := by omega
    have hc := h.cell j hj'
    rw [if_pos hj'] at hc
    rw [show (⟨g, 0, none⟩ : Addr).add j = ⟨g, j, none⟩ from by rw [Addr.add_lit]; simp, hc]
    congr 3
    simp only [lowL, List.getElem_map]
    rw [lowC_toNat, bt_list s j hj']
  rw [hl] at this
  exact this

theorem lowN_mid {n : Nat} (h1 : 65 ≤ n) (h2 : n ≤ 90) : ((n : Int) + 97 - 65) = ((lowN n : Nat) : Int) := by
  unfold lowN; rw [if_pos ⟨h1, h2⟩]; omega
theorem lowN_out {n : Nat} (h : n < 65 ∨ 90 < n) : lowN n = n := by unfold lowN; rw [if_neg (by omega)]

set_option maxRecDepth 100000 in
set_option maxHeartbeats 800000 in
theorem oct_lower_any (s : ByteArray) (w : World) (hs : s.size ≤ 140737488351232) :
    Calls Try.prog 34 #[.string s] w fun e w' => e = .returned (.string (lowB s)) ∧ Below w.heap.size w w' := by
  have hnil := fun (wx : World) (a : Option Addr) (n c : Nat) => Lib.run_eql_slice_nil (P := Try.prog) wx 91 5 a n c 0 0 Try.underlying91
  go_enter Try.func34, Try.ntmps34
  go_wp2
  go_loopw [3, 4, 5] (fun v _ _ wr => ∃ pos : Nat, wr.heap[w.heap.size]? = some (.stringIter s pos) ∧ Below w.heap.size w wr ∧ LowKeeps s w.heap.size v wr pos) (fun _ _ _ wr => s.size - wr.iterPos w.heap.size)
  case atStart => exact ⟨0, World.iter_heap _ _ _, (Below.refl _ _).alloc (Nat.le_refl _) _, .inl ⟨rfl, fun j h => by omega⟩⟩
  case round =>
    obtain ⟨pos, hit, hbel, hkeep⟩ := hrel
    have HB := Lib.hid hbel
    have HI := Lib.hid hit
    have HK := Lib.hid hkeep
    have hmeas : wr.iterPos w.heap.size = pos := by simp [World.iterPos, hit]
    have HM := Lib.hid hmeas
    have hlt0 : w.heap.size < wr.heap.size := (Array.getElem?_eq_some_iff.1 hit).1
    by_cases hlt : pos < s.size
    · have hnx : ∀ ty, (Instr.next (.pointer (some ⟨w.heap.size, 0, none⟩)) true ty).run Try.prog wr = _ := fun ty => Lib.run_next_any_at wr w.heap.size s pos ty hit hlt
      clear hmeas hbel hit hkeep
      by_cases hup : 65 ≤ bt s pos ∧ bt s pos ≤ 90
      · obtain ⟨hu1, hu2⟩ := hup
        have hdec := dec_low s pos hlt (by omega)
        rw [hdec] at hnx
        clear hdec
        have hiz := Lib.iterAt_size wr w.heap.size s (pos + 1)
        have hih := Lib.iterAt_heap wr w.heap.size s pos (pos + 1) HI.out
        have hio : ∀ j, j ≠ w.heap.size → (wr.iterAt w.heap.size s (pos + 1)).heap[j]? = wr.heap[j]? := fun j h => Lib.iterAt_other wr _ j s _ h
        have hib := Lib.below_iterAt HB.out (Nat.le_refl _) s (pos + 1)
        generalize hW : wr.iterAt w.heap.size s (pos + 1) = W at *
        have HZ := Lib.hid hiz
        have HH := Lib.hid hih
        have HO := Lib.hid hio
        have HIB := Lib.hid hib
        have HWe := Lib.hid hW
        clear hiz hih hio hib hW
        have hmid := lowN_mid hu1 hu2
        have HMID := Lib.hid hmid
        clear hmid
        rcases HK.out with ⟨rfl, hno⟩ | ⟨g, cap, rfl, hg, hrow⟩
        · have hrow2 : LowRow s pos W.heap.size (Lib.bytesWorld W 5 s) := LowRow.made s pos W _ hno
          have hcell := hrow2.cell pos hlt
          have hfree := hrow2.free pos hlt
          have hcv := Lib.run_convert_string_bytes (P := Try.prog) W 9 91 5 s Try.underlying9 Try.underlying91 Try.underlying5
          rw [if_neg (Nat.lt_irrefl pos)] at hcell
          clear hno
          go_wp2
          rw [HMID.out]
          go_roundw
          case rel =>
            refine ⟨pos + 1, ?_, ?_, .inr ⟨W.heap.size, _, rfl, ?_, hrow2.stored hlt⟩⟩
            · rw [Below.heap_setCell _ _ _ _ (by show w.heap.size ≠ W.heap.size; rw [HZ.out]; omega), Lib.bytesWorld_at_old _ _ _ _ (by rw [HZ.out]; exact hlt0)]
              exact HH.out
            · exact (HIB.out.trans ((bytesWorld_below W _ s).mono (by rw [HZ.out]; omega))).setCell (by show w.heap.size ≤ W.heap.size; rw [HZ.out]; omega) _
            · rw [HZ.out]; exact hlt0
          case measure =>
            rw [HM.out]
            have hx : (((Lib.bytesWorld W 5 s).setCell ⟨W.heap.size, pos, none⟩ (.int .u8 (lowN (bt s pos) : Nat))).heap[w.heap.size]?) = some (.stringIter s (pos + 1)) := by
              rw [Below.heap_setCell _ _ _ _ (by show w.heap.size ≠ W.heap.size; rw [HZ.out]; omega), Lib.bytesWorld_at_old _ _ _ _ (by rw [HZ.out]; exact hlt0)]
              exact HH.out
            simp only [World.iterPos, hx]
            omega
        · have hcell := hrow.cell pos hlt
          have hfree := hrow.free pos hlt
          rw [if_neg (Nat.lt_irrefl pos)] at hcell
          have hcellW : W.cell? ⟨g, pos, none⟩ = some (.int .u8 (bt s pos : Nat)) := by rw [← hcell]; exact World.cell?_of_block (HO.out g (by omega))
          have hfreeW : W.frozen? ⟨g, pos, none⟩ = false := by rw [← hfree]; exact World.frozen?_of_block (HO.out g (by omega))
          have hrowW : LowRow s pos g W := hrow.kept (HO.out g (by omega)) (by rw [HZ.out]; exact hrow.lt)
          clear hcell hfree
          go_wp2
          rw [HMID.out]
          have hx : ((W.setCell ⟨g, pos, none⟩ (.int .u8 (lowN (bt s pos) : Nat))).heap[w.heap.size]?) = some (.stringIter s (pos + 1)) := by
            rw [Below.heap_setCell _ _ _ _ (by show w.heap.size ≠ g; omega)]
            exact HH.out
          go_roundw
          case rel =>
            exact ⟨pos + 1, hx, HIB.out.setCell (by show w.heap.size ≤ g; omega) _, .inr ⟨g, cap, rfl, hg, hrowW.stored hlt⟩⟩
          case measure =>
            rw [HM.out]
            simp only [World.iterPos, hx]
            omega
      · have hnot : (Utf8.decode s pos).1 < 65 ∨ 90 < (Utf8.decode s pos).1 := by
          by_cases hlow : bt s pos < 128
          · rw [dec_low s pos hlt hlow]; simp only; omega
          · have := (dec_high s pos hlt (by omega)).1; omega
        have hpos : 1 ≤ (Utf8.decode s pos).2 ∧ ∀ j, pos ≤ j → j < pos + (Utf8.decode s pos).2 → j < s.size → lowN (bt s j) = bt s j := by
          by_cases hlow : bt s pos < 128
          · rw [dec_low s pos hlt hlow]
            refine ⟨Nat.le_refl _, fun j h1 h2 _ => ?_⟩
            obtain rfl : j = pos := by simp only at h2; omega
            exact lowN_out (by omega)
          · obtain ⟨_, h2, h3⟩ := dec_high s pos hlt (by omega)
            exact ⟨h2, fun j h4 h5 _ => lowN_out (by have := (h3 j h4 h5).2; omega)⟩
        obtain ⟨hp1, hp2⟩ := hpos
        have HP := Lib.hid hp2
        have hd2 := decode_le s pos
        clear hp2 hup
        generalize Utf8.decode s pos = d at *
        obtain ⟨r, wd⟩ := d
        dsimp only at *
        have hiz := Lib.iterAt_size wr w.heap.size s (pos + wd)
        have hih := Lib.iterAt_heap wr w.heap.size s pos (pos + wd) HI.out
        have hio : ∀ j, j ≠ w.heap.size → (wr.iterAt w.heap.size s (pos + wd)).heap[j]? = wr.heap[j]? := fun j h => Lib.iterAt_other wr _ j s _ h
        have hib := Lib.below_iterAt HB.out (Nat.le_refl _) s (pos + wd)
        generalize hW : wr.iterAt w.heap.size s (pos + wd) = W at *
        have HZ := Lib.hid hiz
        have HH := Lib.hid hih
        have HO := Lib.hid hio
        have HIB := Lib.hid hib
        have HWe := Lib.hid hW
        clear hiz hih hio hib hW
        have hkeep2 : LowKeeps s w.heap.size u3 W (pos + wd) := by
          rcases HK.out with ⟨rfl, hno⟩ | ⟨g, cap, rfl, hg, hrow⟩
          · exact .inl ⟨rfl, fun j h1 h2 => by
              by_cases h3 : j < pos
              · exact hno j h3 h2
              · exact HP.out j (by omega) h1 h2⟩
          · exact .inr ⟨g, cap, rfl, hg, (hrow.kept (HO.out g (by omega)) (by rw [HZ.out]; exact hrow.lt)).widen (by omega) fun j h1 h2 h3 => HP.out j h1 h2 h3⟩
        have HK2 := Lib.hid hkeep2
        clear hkeep2
        rcases hnot with hnot | hnot
        all_goals
          go_wp2
          go_roundw
          case rel => exact ⟨pos + wd, HH.out, HIB.out, HK2.out⟩
          case measure =>
            rw [HM.out]
            simp only [World.iterPos, HH.out]
            omega
    · have hnx : ∀ ty, (Instr.next (.pointer (some ⟨w.heap.size, 0, none⟩)) true ty).run Try.prog wr = _ := fun ty => Lib.run_next_end_at wr w.heap.size s pos ty hit hlt
      clear hmeas hbel hit hkeep
      rcases HK.out with ⟨rfl, hno⟩ | ⟨g, cap, rfl, hg, hrow⟩
      · have hsame := lowB_same s fun j hj => hno j (by omega) hj
        have HS := Lib.hid hsame
        clear hno hsame
        go_wp2
        go_ret
        exact ⟨ret_str HS.out.symm, HB.out⟩
      · have hcv := lowB_row (P := Try.prog) (cap := cap) (src := 91) (dst := 9) (LowRow.full hrow hlt) Try.underlying91 Try.underlying5 Try.underlying9
        go_wp2
        go_ret
        exact ⟨rfl, HB.out⟩
end Go.Proofs.Ytocnecbhpofdgaa
namespace Go.Proofs.Ytocnecbhpofdgaa
open Go.RowKit
set_option linter.unusedVariables false
set_option linter.unusedSimpArgs false


def foldB (a b : ByteArray) : Bool := (lowB a).toList == (lowB b).toList
theorem foldB_size {a b : ByteArray} (h : a.size ≠ b.size) : foldB a b = false := by
  unfold foldB
  rw [beq_eq_false_iff_ne]
  intro e
  rw [ByteArray.toList_eq, ByteArray.toList_eq] at e
  have := congrArg List.length e
  simp [lowB, lowL_length] at this
  exact h this

set_option maxHeartbeats 400000 in
theorem oct_fold_any (a b : ByteArray) (w : World) (ha : a.size ≤ 140737488351232) (hb : b.size ≤ 140737488351232) :
    Calls Try.prog 31 #[.string a, .string b] w fun e w' => e = .returned (.bool (foldB a b)) ∧ Below w.heap.size w w' := by
  by_cases hab : a.size = b.size
  · have h1 : ((a.size : Int) == (b.size : Int)) = true := by rw [hab]; simp
    clear hab
    go_enter Try.func31, Try.ntmps31
    go_wp2_with fail
    refine (oct_lower_any _ _ ha).mono ?_
    rintro e w1 ⟨rfl, hb1⟩
    go_wp2_with fail
    refine (oct_lower_any _ _ hb).mono ?_
    rintro e w2 ⟨rfl, hb2⟩
    go_wp2
    go_ret
    exact ⟨rfl, hb1.trans (hb2.mono hb1.size)⟩
  · rw [foldB_size hab]
    have h1 : ((a.size : Int) == (b.size : Int)) = false := by simp; omega
    clear hab
    go_enter Try.func31, Try.ntmps31
    go_wp2
    go_ret
    exact ⟨rfl, Below.refl _ _⟩
end Go.Proofs.Ytocnecbhpofdgaa
namespace Go.Proofs.Ytocnecbhpofdgaa
open Go.RowKit
set_option linter.unusedVariables false
set_option linter.unusedSimpArgs false

/-- What Trim keeps from round to round: nothing but blanks so far; or first is where the first other octet stands, and end lies within the last row of others, which ends at q. -/
def TrimKeeps (s : ByteArray) (v3 v4 v5 : Value) (pos : Nat) : Prop :=
  (v3 = .int .i64 0 ∧ v4 = .int .i64 0 ∧ v5 = .bool false ∧ ∀ j, j < pos → j < s.size → blankN (bt s j) = true) ∨
  ∃ a e q : Nat, v3 = .int .i64 a ∧ v4 = .int .i64 e ∧ v5 = .bool true ∧ a < e ∧ e ≤ q ∧ q ≤ pos ∧ q ≤ s.size ∧ (∀ j, j < a → blankN (bt s j) = true) ∧ blankN (bt s a) = false ∧
    (∀ j, e ≤ j + 1 → j < q → blankN (bt s j) = false) ∧ ∀ j, q ≤ j → j < pos → j < s.size → blankN (bt s j) = true

theorem TrimKeeps.blank {s : ByteArray} {v3 v4 v5 : Value} {pos : Nat} (h : TrimKeeps s v3 v4 v5 pos) (hb : blankN (bt s pos) = true) : TrimKeeps s v3 v4 v5 (pos + 1) := by
  rcases h with ⟨h3, h4, h5, h⟩ | ⟨a, e, q, h3, h4, h5, g1, g2, g3, g4, g5, g6, g7, g8⟩
  · refine .inl ⟨h3, h4, h5, fun j h1 h2 => ?_⟩
    by_cases hj : j < pos
    · exact h j hj h2
    · obtain rfl : j = pos := by omega
      exact hb
  · refine .inr ⟨a, e, q, h3, h4, h5, g1, g2, by omega, g4, g5, g6, g7, fun j h1 h2 h3 => ?_⟩
    by_cases hj : j < pos
    · exact g8 j h1 hj h3
    · obtain rfl : j = pos := by omega
      exact hb
theorem TrimKeeps.first {s : ByteArray} {v4 v5 : Value} {pos wd : Nat} (hw : 1 ≤ wd) (hsz : pos + wd ≤ s.size) (hn : ∀ j, pos ≤ j → j < pos + wd → blankN (bt s j) = false)
    (h : ∀ j, j < pos → j < s.size → blankN (bt s j) = true) : TrimKeeps s (.int .i64 (pos : Int)) (.int .i64 ((pos : Int) + 1)) (.bool true) (pos + wd) :=
  .inr ⟨pos, pos + 1, pos + wd, rfl, by go_num, rfl, by omega, by omega, Nat.le_refl _, hsz, fun j hj => h j hj (by omega), hn pos (Nat.le_refl _) (by omega), fun j h1 h2 => hn j (by omega) h2, fun j h1 h2 => by omega⟩
theorem TrimKeeps.next {s : ByteArray} {v3 v4 : Value} {a pos wd : Nat} (hw : 1 ≤ wd) (hsz : pos + wd ≤ s.size) (hn : ∀ j, pos ≤ j → j < pos + wd → blankN (bt s j) = false)
    (h3 : v3 = .int .i64 a) (ha : a < pos) (g5 : ∀ j, j < a → blankN (bt s j) = true) (g6 : blankN (bt s a) = false) : TrimKeeps s v3 (.int .i64 ((pos : Int) + 1)) (.bool true) (pos + wd) :=
  .inr ⟨a, pos + 1, pos + wd, h3, by go_num, rfl, by omega, by omega, Nat.le_refl _, hsz, g5, g6, fun j h1 h2 => hn j (by omega) h2, fun j h1 h2 => by omega⟩

set_option maxHeartbeats 1000000 in
theorem oct_trim_any (s : ByteArray) (w : World) (hs : s.size ≤ maxLen) :
    Calls Try.prog 46 #[.string s] w fun e w' => e = .returned (.string (trimB s)) ∧ Below w.heap.size w w' := by
  unfold maxLen at hs
  go_enter Try.func46, Try.ntmps46
  go_wp2
  go_loopw [3, 4, 5, 6, 7] (fun v3 v4 v5 _ _ wr => ∃ pos : Nat, wr.heap[w.heap.size]? = some (.stringIter s pos) ∧ Below w.heap.size w wr ∧ TrimKeeps s v3 v4 v5 pos) (fun _ _ _ _ _ wr => s.size - wr.iterPos w.heap.size)
  case atStart => exact ⟨0, World.iter_heap _ _ _, (Below.refl _ _).alloc (Nat.le_refl _) _, .inl ⟨rfl, rfl, rfl, fun j h => by omega⟩⟩
  case round =>
    obtain ⟨pos, hit, hbel, hkeep⟩ := hrel
    have HB := Lib.hid hbel
    have HI := Lib.hid hit
    have HK := Lib.hid hkeep
    have hmeas : wr.iterPos w.heap.size = pos := by simp [World.iterPos, hit]
    have HM := Lib.hid hmeas
    have hlt0 : w.heap.size < wr.heap.size := (Array.getElem?_eq_some_iff.1 hit).1
    by_cases hlt : pos < s.size
    · have hnx : ∀ ty, (Instr.next (.pointer (some ⟨w.heap.size, 0, none⟩)) true ty).run Try.prog wr = _ := fun ty => Lib.run_next_any_at wr w.heap.size s pos ty hit hlt
      clear hmeas hbel hit hkeep
      by_cases hbl : blankN (bt s pos) = true
      · have hlow : bt s pos < 128 := by simp [blankN] at hbl; omega
        have hdec := dec_low s pos hlt hlow
        rw [hdec] at hnx
        have hih := Lib.iterAt_heap wr w.heap.size s pos (pos + 1) HI.out
        have hib := Lib.below_iterAt HB.out (Nat.le_refl _) s (pos + 1)
        generalize hW : wr.iterAt w.heap.size s (pos + 1) = W at *
        have HH := Lib.hid hih
        have HIB := Lib.hid hib
        have HK2 := Lib.hid (HK.out.blank hbl)
        clear hdec hih hib hW
        have hb2 : ((bt s pos : Int) == 32) = true ∨ ((bt s pos : Int) == 32) = false ∧ ((bt s pos : Int) == 9) = true := by
          simp [blankN] at hbl; simp; omega
        clear hbl
        rcases hb2 with e1 | ⟨e1, e2⟩
        all_goals
          go_wp2
          go_roundw
          case rel => exact ⟨pos + 1, HH.out, HIB.out, HK2.out⟩
          case measure =>
            rw [HM.out]
            simp only [World.iterPos, HH.out]
            omega
      · have hnot : ((Utf8.decode s pos).1 == 32) = false ∧ ((Utf8.decode s pos).1 == 9) = false := by
          by_cases hlow : bt s pos < 128
          · rw [dec_low s pos hlt hlow]; simp [blankN] at hbl; simp; omega
          · have := (dec_high s pos hlt (by omega)).1; simp; omega
        have hpos : 1 ≤ (Utf8.decode s pos).2 ∧ pos + (Utf8.decode s pos).2 ≤ s.size ∧ ∀ j, pos ≤ j → j < pos + (Utf8.decode s pos).2 → blankN (bt s j) = false := by
          by_cases hlow : bt s pos < 128
          · rw [dec_low s pos hlt hlow]
            refine ⟨Nat.le_refl _, hlt, fun j h1 h2 => ?_⟩
            obtain rfl : j = pos := by simp only at h2; omega
            simpa using hbl
          · obtain ⟨_, h2, h3⟩ := dec_high s pos hlt (by omega)
            refine ⟨h2, ?_, fun j h4 h5 => ?_⟩
            · have := (h3 (pos + (Utf8.decode s pos).2 - 1) (by omega) (by omega)).1; omega
            · have := (h3 j h4 h5).2; simp [blankN]; omega
        obtain ⟨hp1, hp2, hp3⟩ := hpos
        have HP := Lib.hid hp3
        have hd2 := decode_le s pos
        obtain ⟨n1, n2⟩ := hnot
        clear hp3 hbl
        generalize Utf8.decode s pos = d at *
        obtain ⟨r, wd⟩ := d
        dsimp only at *
        have e1 : ((r : Int) == 32) = false := by simp at n1 ⊢; omega
        have e2 : ((r : Int) == 9) = false := by simp at n2 ⊢; omega
        have hih := Lib.iterAt_heap wr w.heap.size s pos (pos + wd) HI.out
        have hib := Lib.below_iterAt HB.out (Nat.le_refl _) s (pos + wd)
        generalize hW : wr.iterAt w.heap.size s (pos + wd) = W at *
        have HH := Lib.hid hih
        have HIB := Lib.hid hib
        clear hih hib hW n1 n2
        rcases HK.out with ⟨rfl, rfl, rfl, hno⟩ | ⟨a, e, q, rfl, rfl, rfl, g1, g2, g3, g4, g5, g6, g7, g8⟩
        · have HN := Lib.hid hno
          clear hno
          go_wp2
          go_roundw
          case rel => exact ⟨pos + wd, HH.out, HIB.out, TrimKeeps.first (v4 := .nilIface) (v5 := .nilIface) hp1 hp2 HP.out HN.out⟩
          case measure =>
            rw [HM.out]
            simp only [World.iterPos, HH.out]
            omega
        · have H5 := Lib.hid g5
          have H6 := Lib.hid g6
          clear g5 g6 g7 g8
          go_wp2
          go_roundw
          case rel => exact ⟨pos + wd, HH.out, HIB.out, TrimKeeps.next (v4 := .nilIface) hp1 hp2 HP.out rfl (by omega) H5.out H6.out⟩
          case measure =>
            rw [HM.out]
            simp only [World.iterPos, HH.out]
            omega
    · have hnx : ∀ ty, (Instr.next (.pointer (some ⟨w.heap.size, 0, none⟩)) true ty).run Try.prog wr = _ := fun ty => Lib.run_next_end_at wr w.heap.size s pos ty hit hlt
      clear hmeas hbel hit hkeep
      rcases HK.out with ⟨rfl, rfl, rfl, hno⟩ | ⟨a, e, q, rfl, rfl, rfl, g1, g2, g3, g4, g5, g6, g7, g8⟩
      · have HE := Lib.hid (trimB_blank s fun j hj => hno j (by omega) hj)
        clear hno
        go_wp2
        go_ret
        exact ⟨ret_str HE.out, HB.out⟩
      · have hfin := trimB_extract s a q (by omega) g4 g5 (fun j h1 h2 => g8 j h1 (by omega) h2) g6 (g7 (q - 1) (by omega) (by omega))
        have HE := Lib.hid hfin
        have H7 := Lib.hid g7
        have H8 := Lib.hid g8
        clear hfin g5 g6 g7 g8
        obtain ⟨wo, rfl⟩ : ∃ wo : World, wo = wr := ⟨_, rfl⟩
        go_wp2
        go_loop [4] (fun v => ∃ k : Nat, e ≤ k ∧ k ≤ q ∧ v = .int .i64 k) (fun v => s.size - (intOf v).toNat)
        case atStart => exact ⟨e, Nat.le_refl _, g2, rfl⟩
        case round =>
          obtain ⟨k, hk1, hk2, rfl⟩ := hrel
          by_cases hkq : k < q
          · have hb := H7.out k (by omega) hkq
            have hbt := bt_at s k (by omega)
            have hks : k < s.size := by omega
            have e1 : ((s[k].toNat : Int) != 32) = true := by rw [hbt]; simp [blankN] at hb; simp; omega
            have e2 : ((s[k].toNat : Int) != 9) = true := by rw [hbt]; simp [blankN] at hb; simp; omega
            clear hb hbt
            go_wp2
            go_round
            case rel => exact ⟨k + 1, by omega, by omega, by go_num⟩
            case measure => simp [intOf]; omega
          · obtain rfl : k = q := by omega
            by_cases hks : k < s.size
            · have hb := H8.out k (Nat.le_refl _) (by omega) hks
              have hbt := bt_at s k hks
              have e1 : ((s[k].toNat : Int) != 32) = false ∨ ((s[k].toNat : Int) != 32) = true ∧ ((s[k].toNat : Int) != 9) = false := by rw [hbt]; simp [blankN] at hb; simp; omega
              clear hb hbt
              rcases e1 with e1 | ⟨e1, e2⟩
              all_goals
                go_wp2
                go_ret
                exact ⟨ret_str HE.out, HB.out⟩
            · go_wp2
              go_ret
              exact ⟨ret_str HE.out, HB.out⟩
end Go.Proofs.Ytocnecbhpofdgaa
namespace Go.Proofs.Ytocnecbhpofdgaa
open Go.RowKit
set_option linter.unusedVariables false
set_option linter.unusedSimpArgs false

theorem ex1_trim : trimB ⟨#[32, 97, 9]⟩ = ⟨#[97]⟩ := by decide +kernel
theorem ex1_fold : foldB ⟨#[75, 101, 101, 112, 45, 65, 108, 105, 118, 101]⟩ ⟨#[107, 101, 101, 112, 45, 97, 108, 105, 118, 101]⟩ = true := by decide +kernel
theorem ex1_tok : tokenB ⟨#[97, 45, 98]⟩ = true := by decide +kernel
theorem ex1_tok2 : tokenB ⟨#[97, 32, 98]⟩ = false := by decide +kernel
theorem ex1_low : lowB ⟨#[97, 66]⟩ = ⟨#[97, 98]⟩ := by decide +kernel
theorem ex1_vis : visibleB ⟨#[97, 47, 98]⟩ = true := by decide +kernel

end Go.Proofs.Ytocnecbhpofdgaa
namespace Go.Proofs.Ytocnecbhpofdgaa
open Go.RowKit
set_option linter.unusedVariables false
set_option linter.unusedSimpArgs false

theorem extract_le (s : ByteArray) (n : Nat) : (s.extract 0 n).size ≤ n := by
  rw [ba_size, Lib.extract_data]; simp; omega

theorem below_drewN (w : World) (n : Nat) : Below w.heap.size w (w.drewN n) := ⟨rfl, rfl, rfl, Nat.le_refl _, fun _ _ => rfl⟩

end Go.Proofs.Ytocnecbhpofdgaa
namespace Go.Proofs.Ytocnecbhpofdgaa
open Go.RowKit
set_option linter.unusedVariables false
set_option linter.unusedSimpArgs false

theorem lowN_lowN (n : Nat) : lowN (lowN n) = lowN n := by
  by_cases h : 65 ≤ n ∧ n ≤ 90
  · have e : lowN n = n + 32 := by unfold lowN; rw [if_pos h]
    rw [e, lowN_out (by omega)]
  · have e : lowN n = n := by unfold lowN; rw [if_neg h]
    rw [e, e]
theorem lowC_lowC (c : UInt8) : lowC (lowC c) = lowC c := by
  apply UInt8.toNat_inj.1
  rw [lowC_toNat, lowC_toNat, lowN_lowN]
theorem lowB_lowB (s : ByteArray) : lowB (lowB s) = lowB s := by
  unfold lowB
  congr 2
  simp [lowL, lowC_lowC]
theorem lowB_size (s : ByteArray) : (lowB s).size = s.size := by rw [ba_size, ba_size]; simp [lowB, lowL]
theorem trimB_trimB (s : ByteArray) : trimB (trimB s) = trimB s := by
  unfold trimB
  congr 2
  simp [trimL_trimL]
theorem trimB_size (s : ByteArray) : (trimB s).size ≤ s.size := by
  rw [ba_size, ba_size]
  simp only [trimB]
  exact trimL_length _
theorem trimB_around (s : ByteArray) : trimB (⟨#[32, 9]⟩ ++ s ++ ⟨#[9, 32]⟩) = trimB s := by
  unfold trimB
  congr 2
  have := trimL_around s.data.toList [32, 9] [9, 32] (by decide) (by decide)
  rw [← this]
  simp
theorem foldB_low (a : ByteArray) : foldB a (lowB a) = true := by simp [foldB, lowB_lowB]
theorem foldB_comm (a b : ByteArray) : foldB a b = foldB b a := by
  unfold foldB
  rw [Bool.eq_iff_iff]
  simp
  exact ⟨Eq.symm, Eq.symm⟩
theorem foldB_trans {a b c : ByteArray} (h1 : foldB a b = true) (h2 : foldB b c = true) : foldB a c = true := by
  simp [foldB] at *
  rw [h1, h2]
theorem trimB_token {a : ByteArray} (h : tokenB a = true) : trimB a = a ∧ visibleB a = true ∧ allB valueB a = true := by
  simp only [tokenB, Bool.and_eq_true] at h
  obtain ⟨h0, h⟩ := h
  have hall : ∀ c ∈ a.data.toList, tcharB c.toNat = true := by
    unfold allB at h
    rw [List.all_eq_true] at h
    exact h
  have hlo : ∀ c ∈ a.data.toList, 33 ≤ c.toNat ∧ c.toNat ≤ 126 := fun c hc => tchar_low _ c.toNat_lt (hall c hc)
  refine ⟨?_, ?_, ?_⟩
  · refine (ba_eq a _ ?_).symm
    have ht : Tidy a.data.toList := by
      rcases List.eq_nil_or_concat a.data.toList with e | ⟨r, c, e⟩
      · exact .inl e
      · right
        rw [List.concat_eq_append] at e
        refine ⟨?_, r, c, e, ?_⟩
        · cases hx : a.data.toList with
          | nil => rw [hx] at e; simp at e
          | cons d m => exact ⟨d, m, rfl, by have := hlo d (by rw [hx]; simp); simp [blankC, blankN]; omega⟩
        · have := hlo c (by rw [e]; simp); simp [blankC, blankN]; omega
    exact (trimL_tidy _ ht).symm
  · simp only [visibleB, h0, Bool.true_and, allB, List.all_eq_true]
    intro c hc
    have := hlo c hc
    simp [visB, this]
  · simp only [allB, List.all_eq_true]
    intro c hc
    have := hlo c hc
    simp [valueB]; omega
theorem trimB_ends (s : ByteArray) (h : 0 < (trimB s).size) : blankN (bt (trimB s) 0) = false ∧ blankN (bt (trimB s) ((trimB s).size - 1)) = false := by
  obtain ⟨p, q, e, hp, hq, ht⟩ := trimL_part s.data.toList
  have hd : (trimB s).data.toList = trimL s.data.toList := by simp [trimB]
  rcases ht with ht | ⟨⟨c, r, h1, h2⟩, r', c', h3, h4⟩
  · rw [ba_len hd, ht] at h; simp at h
  · exact ⟨by rw [bt_cons (hd.trans h1)]; exact h2, by rw [bt_snoc (hd.trans h3)]; exact h4⟩

end Go.Proofs.Ytocnecbhpofdgaa
