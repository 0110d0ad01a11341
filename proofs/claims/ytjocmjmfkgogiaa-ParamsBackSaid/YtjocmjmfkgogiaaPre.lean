/- Words with parameters: Parse (layer 8). -/
import Derived.Test.YtjocmjmfkgogiaaPrd
import Derived.Deep.RegionWith
namespace Go.Proofs.Ytjocmjmfkgogiaa
open Go.RowKit
set_option linter.unusedVariables false
set_option linter.unusedSimpArgs false

theorem prmAll_emp {s : ByteArray} (h : s.size = 0) : prmAll s = (2, ⟨#[]⟩, []) := by unfold prmAll; rw [if_pos h]
theorem prmAll_no {s : ByteArray} (h : s.size ≠ 0) (h2 : preN tcharB s = 0 ∨ parsL (s.size + 1) (fromB s (preN tcharB s)) = none) : prmAll s = (3, ⟨#[]⟩, []) := by
  unfold prmAll; rw [if_neg h]
  by_cases h0 : preN tcharB s = 0
  · rw [if_pos h0]
  · rw [if_neg h0]
    rcases h2 with h2 | h2
    · exact absurd h2 h0
    · rw [h2]
theorem prmAll_yes {s : ByteArray} {l : List Par} (h : s.size ≠ 0) (h1 : 0 < preN tcharB s) (h2 : parsL (s.size + 1) (fromB s (preN tcharB s)) = some l) : prmAll s = (0, lowB (upB s (preN tcharB s)), l) := by
  unfold prmAll; rw [if_neg h, if_neg (by omega), h2]

def curN (w : World) (b : Nat) : Nat := match w.cell? ⟨b, 1, none⟩ with
  | some (.int _ k) => k.toNat
  | _ => 0
theorem CurAt.curN {b n : Nat} {s : ByteArray} {w : World} (h : CurAt b s n w) : curN w b = n := by unfold Proofs.Ytjocmjmfkgogiaa.curN; rw [h.pos]; simp
def onB : Value → Nat | .bool true => 1 | _ => 0

/-- What Parse's loop keeps. -/
structure ParSt (B Bc Bv b : Nat) (s : ByteArray) (okb : Bool) (wr : World) : Prop where
  var : ∃ v, Bl wr Bv 39 #[v]
  yes : okb = true → 0 < preN tcharB s ∧ ∃ n l, TakeSt B Bc Bv b s n l wr ∧ parsL (s.size + 1) (fromB s (preN tcharB s)) = (parsL (s.size + 1) (fromB s n)).map (l ++ ·)
  no : okb = false → preN tcharB s = 0 ∨ parsL (s.size + 1) (fromB s (preN tcharB s)) = none

def ParPost (s : ByteArray) (w : World) (e : Ending) (w' : World) : Prop :=
  ∃ v, e = .returned (.tuple #[.string (prmAll s).2.1, v, .int .i64 (prmAll s).1]) ∧ w'.ownsRow w.heap.size 49 2 v (prmAll s).2.2.length (pcells (prmAll s).2.2) ∧ Below w.heap.size w w'

set_option maxRecDepth 100000 in
set_option maxHeartbeats 4000000 in
theorem parse_any (s : ByteArray) (w : World) (hs : s.size ≤ 1000000) :
    Calls Try.prog 30 #[.string s] w (ParPost s w) := by
  by_cases h0 : s.size = 0
  · have HP := Lib.hid (prmAll_emp h0)
    have he : s.toList = [] := tl_of_size h0
    clear h0
    go_enter Try.func30, Try.ntmps30
    go_wp2_with fail
    refine bodyPost_ret (v := .tuple #[.string ⟨#[]⟩, .slice none 0 0, .int .i64 2]) (by simp [results, Try.results30, go_sem]) rfl ⟨.slice none 0 0, by rw [HP.out], ?_, ?_⟩
    · rw [HP.out]; exact World.ownsRow_nil _ _ _ _
    · exact (Below.refl _ _).alloc (Nat.le_refl _) _
  · have he : s.toList.isEmpty = false := tl_ne_size (by omega)
    have H0 := Lib.hid h0
    clear h0
    have hmf : ∀ (fn : Fn) (first cap : Array Value) (w : World), (Instr.makeFunc fn first cap).run Try.prog w = .ok (.func fn first cap) w := fun _ _ _ _ => rfl
    go_enter Try.func30, Try.ntmps30
    go_wp2_with fail
    refine (cur_new _ _ (by omega)).mono ?_
    rintro e w1 ⟨rfl, hb1, hc1⟩
    have HC1 := Lib.hid (show CurAt (w.heap.size + 1) s 0 w1 by simpa using hc1)
    have HV1 := Lib.hid ((Bl.new w 39 #[.slice none 0 0]).below hb1)
    have HB1 := Lib.hid (below_thn ((Below.refl w.heap.size w).alloc (Nat.le_refl _) _) hb1)
    clear hb1 hc1
    have hz1 : w.heap.size + 1 < w1.heap.size := HC1.out.lt
    go_wp2_with fail
    refine (cur_token _ _ _ _ (HC1.out.alloc _)).mono ?_
    rintro e w2 ⟨rfl, ht2⟩
    rw [fromB_zero] at ht2 ⊢
    rw [Nat.zero_add] at ht2
    have HC2 := Lib.hid ht2.2
    have HV2 := Lib.hid ((HV1.out.alloc _).but ht2.1 (by omega))
    have HCV2 := Lib.hid ((Bl.new w1 23 #[.pointer (some ⟨w.heap.size + 1, 0, none⟩)]).but ht2.1 (by omega))
    have HB2 := Lib.hid ((HB1.out.alloc HB1.out.size _).trans (ht2.1.below (B := w.heap.size) (by omega) (by simp; omega)))
    clear ht2
    have hz2 : w1.heap.size < w2.heap.size := HCV2.out.lt
    have hstart : ParSt w.heap.size w1.heap.size w.heap.size (w.heap.size + 1) s (!(upB s (preN tcharB s)).toList.isEmpty) w2 := by
      refine ⟨⟨_, HV2.out⟩, fun h => ⟨?_, preN tcharB s, [], ⟨HCV2.out, ⟨_, HV2.out, World.ownsRow_nil _ _ _ _⟩, HC2.out, by simp⟩, ?_⟩, fun h => ?_⟩
      · rw [emp_iff, upB_size, Nat.min_eq_left (preN_le _ _)] at h
        simp at h; omega
      · cases parsL (s.size + 1) (fromB s (preN tcharB s)) <;> simp
      · rw [emp_iff, upB_size, Nat.min_eq_left (preN_le _ _)] at h
        simp at h
        left; omega
    have HST := Lib.hid hstart
    clear hstart
    have hwz : (upB s (preN tcharB s)).size ≤ 1000000 := by rw [upB_size]; omega
    obtain ⟨wd, hwd⟩ : ∃ wd, wd = upB s (preN tcharB s) := ⟨_, rfl⟩
    have HWD := Lib.hid hwd
    rw [← hwd] at HST hwz ⊢
    clear hwd
    obtain ⟨eb, heb⟩ : ∃ eb, wd.toList.isEmpty = eb := ⟨_, rfl⟩
    rw [heb] at HST
    have hee : wd.toList = [] ↔ eb = true := by rw [← heb]; simp
    go_wp2_with fail
    have HB2e := HB2
    go_loopw [8] (fun v wr => ∃ okb, v = .bool okb ∧ Below w.heap.size w wr ∧ ParSt w.heap.size w1.heap.size w.heap.size (w.heap.size + 1) s okb wr) (fun v wr => onB v * (2 + s.size - curN wr (w.heap.size + 1)))
    case atStart => exact ⟨_, rfl, HB2.out, HST.out⟩
    case round =>
      obtain ⟨okb, rfl, hbel, hst⟩ := hrel
      have HB := Lib.hid hbel
      have HSt := Lib.hid hst
      have hsz := hbel.size
      obtain ⟨vv, hvv⟩ := hst.var
      have HVV := Lib.hid hvv
      clear hbel hst hvv
      cases okb
      · have hv0 := HVV.out.free 0
        have hvl := HVV.out.lt
        have hvc := HVV.out.cell 0
        have HP := Lib.hid (prmAll_no H0.out (HSt.out.no rfl))
        go_wp2_with fail
        refine bodyPost_ret (v := .tuple #[.string ⟨#[]⟩, .slice none 0 0, .int .i64 3]) (by simp [results, Try.results30, go_sem, hvc, hvl]) rfl ⟨.slice none 0 0, by rw [HP.out], ?_, ?_⟩
        · rw [HP.out]; exact World.ownsRow_nil _ _ _ _
        · exact HB.out.setCell (Nat.le_refl _) _
      · obtain ⟨hk0, n, l, hts, hpl⟩ := HSt.out.yes rfl
        have HTS := Lib.hid hts
        have HPL := Lib.hid hpl
        have HK0 := Lib.hid hk0
        have hcn : curN wr (w.heap.size + 1) = n := hts.cur.curN
        have HCN := Lib.hid hcn
        have hc0 : wr.cell? ⟨w1.heap.size, 0, none⟩ = some (.pointer (some ⟨w.heap.size + 1, 0, none⟩)) := hts.cv.cell 0
        clear hts hpl hk0 hcn
        go_wp2_with fail
        refine (cur_done _ _ _ _ HTS.out.cur).mono ?_
        rintro e w3 ⟨rfl, hb3⟩
        have HTS3 := Lib.hid (HTS.out.below hb3)
        have HB3 := Lib.hid (HB.out.trans (hb3.mono hsz))
        have hsz3 := HB3.out.size
        have HV3 := Lib.hid (HVV.out.below hb3)
        clear hb3 hc0
        by_cases hd : (fromB s n).size = 0
        · obtain ⟨lv, hlv1, hlv2⟩ := HTS3.out.lv
          have HL1 := Lib.hid hlv1
          have HL2 := Lib.hid hlv2
          have HP := Lib.hid (prmAll_yes (l := l) H0.out HK0.out (by rw [HPL.out, parsL_end hd _ (by omega)]; simp))
          rw [decide_eq_true hd]
          clear hd
          have hform : lv = .slice none 0 0 ∨ ∃ g cap, lv = .slice (some ⟨g, 0, none⟩) l.length cap := by
            rcases hlv2.2 with ⟨h, _⟩ | ⟨g, cap, _, h, _⟩
            · exact .inl h
            · exact .inr ⟨g, cap, h⟩
          clear hlv1 hlv2
          rcases hform with rfl | ⟨g, cap, rfl⟩
          all_goals
            have r0 : w3.drew.cell? ⟨w.heap.size, 0, none⟩ = some _ := HL1.out.cell 0
            go_wp2_with fail
            first | go_region_with (go_at_call 68; refine (oct_lower_any _ _ (by omega)).mono ?_; rintro e w5 ⟨rfl, hb5⟩; have r1 := (Bl.below (w := w3.drew) HL1.out hb5).cell 0; have r2 := (Bl.below (w := w3.drew) HL1.out hb5).free 0; have r3 := (Bl.below (w := w3.drew) HL1.out hb5).lt; have HL5 := Lib.hid (own_below (w := w3.drew) HL2.out hb5)) | fail
            all_goals
              go_wp2_with fail
              refine bodyPost_ret (v := .tuple #[.string (lowB wd), _, .int .i64 0]) (by simp [results, Try.results30, go_sem, r1, r3]; rfl) rfl ⟨_, by rw [HP.out, HWD.out], ?_, ?_⟩
              · rw [HP.out]; exact own_set HL5.out (Bl.below (w := w3.drew) HL1.out hb5) (by decide) _ _
              · exact (HB3.out.drew.trans (hb5.mono hsz3)).setCell (Nat.le_refl _) _
        · rw [decide_eq_false hd]
          have HD := Lib.hid hd
          have hc3 : w3.cell? ⟨w1.heap.size, 0, none⟩ = some (.pointer (some ⟨w.heap.size + 1, 0, none⟩)) := HTS3.out.cv.cell 0
          clear hd
          go_wp2_with fail
          refine (take_any _ _ _ _ _ _ _ _ HTS3.out ⟨by omega, by omega, by omega, by omega⟩ ⟨by omega, by omega, by omega⟩ (by omega)).mono ?_
          rintro e w4 ⟨rfl, hb4, hv4, m, l', h4⟩
          have HB4 := Lib.hid (HB3.out.trans hb4)
          have HV4 := Lib.hid hv4
          have H4 := Lib.hid h4
          clear hb4 hv4 h4
          cases hok : parOk (fromB s n)
          · have HOK := Lib.hid hok
            clear hok
            go_wp2_with fail
            go_roundw
            case rel => exact ⟨false, rfl, HB4.out, ⟨HV4.out, (fun h => by cases h), fun _ => .inr (by rw [HPL.out, parsL_no HD.out HOK.out]; rfl)⟩⟩
            case measure => rw [HCN.out]; have := HTS.out.cur.le; simp [onB]; omega
          · have HOK := Lib.hid hok
            obtain ⟨q1, q2, q3⟩ := H4.out hok
            have hpe := parEnd_le hok
            rw [fromB_size] at hpe
            have HQ1 := Lib.hid q1
            have HQ2 := Lib.hid q2
            have HQ3 := Lib.hid q3
            clear hok q1 q2 q3
            go_wp2_with fail
            go_roundw
            case rel =>
              refine ⟨true, rfl, HB4.out, ⟨HV4.out, fun _ => ⟨HK0.out, m, l', HQ1.out, ?_⟩, fun h => by cases h⟩⟩
              rw [HPL.out, parsL_step HD.out HOK.out _ (by rw [fromB_size]; omega), HQ3.out, HQ2.out, fromB_from]
              cases parsL (s.size + 1) (fromB s (n + parEnd (fromB s n))) <;> simp
            case measure =>
              rw [HCN.out, HQ1.out.cur.curN, HQ2.out]
              simp [onB]; omega
end Go.Proofs.Ytjocmjmfkgogiaa
