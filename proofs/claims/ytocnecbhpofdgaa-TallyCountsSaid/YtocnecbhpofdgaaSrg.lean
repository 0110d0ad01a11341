/- A stable sort at abutment/tally.Row: two sorted stretches are merged, by parts (bin/mkssc.py). -/
import Derived.Test.YtocnecbhpofdgaaSrf
import Derived.Deep.DeepCutAuto
import Derived.Deep.Cut
namespace Go.Proofs.Ytocnecbhpofdgaa
open Go.RowKit Go.Shelf Go.Lib Go.Sort
set_option linter.unusedVariables false
set_option linter.unusedSimpArgs false


theorem mrg_lenSrw (lt : Srw → Srw → Bool) : ∀ (n : Nat) (A B : List Srw), A.length + B.length ≤ n → (mrg lt A B).length = A.length + B.length
  | _, [], B, _ => by rw [nil_mrg]; simp
  | _, a :: A, [], _ => by rw [mrg_nil]; simp
  | 0, _ :: _, _ :: _, h => by simp at h
  | n + 1, a :: A, b :: B, h => by
    simp only [List.length_cons] at h
    rw [mrg]
    split
    · rw [List.length_cons, mrg_lenSrw lt n (a :: A) B (by simp; omega)]
      simp only [List.length_cons]
      omega
    · rw [List.length_cons, mrg_lenSrw lt n A (b :: B) (by simp; omega)]
      simp only [List.length_cons]
      omega
set_option maxRecDepth 100000 in
set_option maxHeartbeats 4000000 in
theorem ss_symMergeSrw (cf : Srw → Srw → Int) (hw : Swo (ltOf cf)) (hC : CmpTSrw cf) (blk cap : Nat) (d0 : Array Srw) (w0 : World) (R : RwSrw w0 blk d0) : ∀ (N : Nat) (P A B Q : List Srw) (d : Array Srw) (w : World), A.length + B.length ≤ N → 0 < A.length → 0 < B.length → d.size = d0.size → SWSrw w0 blk d w →
    d.toList = P ++ (A ++ (B ++ Q)) → Srt (ltOf cf) A → Srt (ltOf cf) B → d.size ≤ 1000000 → ∀ (a m b : Nat), a = P.length → m = P.length + A.length → b = P.length + A.length + B.length →
    Calls Try.prog 88 #[.slice (some ⟨blk, 0, none⟩) d.size cap, .int .i64 a, .int .i64 m, .int .i64 b, .func (.func 61) #[] #[]] w fun e w' => e = .returned (.tuple #[]) ∧ ∃ d', SWSrw w0 blk d' w' ∧ d'.size = d.size ∧ d'.toList = P ++ (mrg (ltOf cf) A B ++ Q) := by
  intro N
  induction N with
  | zero => intro P A B Q d w h1 h2 h3; omega
  | succ N ih =>
  intro P A B Q d w hN hA0 hB0 hs S hd hA hB hsz a m b ha hm hb
  by_cases h1A : A.length = 1
  · obtain ⟨x, rfl⟩ := List.length_eq_one_iff.1 h1A
    exact ss_oneASrw cf hw hC blk cap P B Q x d0 d w0 w R hs S hd hB hsz a m b ha hm hb
  by_cases h1B : B.length = 1
  · obtain ⟨y, rfl⟩ := List.length_eq_one_iff.1 h1B
    exact ss_oneBSrw cf hw hC blk cap P A Q y d0 d w0 w R hs S hd hA (by omega) hsz a m b ha hm hb
  have mixed : Try.prog.follows .mixedOrders = true := by kernel_rfl
  have IH := Kp.mk ih
  have HR := Kp.mk R
  have HS0 := Kp.mk hs
  have HS := Kp.mk S
  have HD := Kp.mk hd
  have HAS := Kp.mk hA
  have HBS := Kp.mk hB
  have HWO := Kp.mk hw
  have HC := Kp.mk hC
  have hdl := arr_size hd
  simp only [List.length_append] at hdl
  have HAM := Kp.mk (show a = P.length ∧ m = P.length + A.length ∧ b = P.length + A.length + B.length ∧ A.length + B.length ≤ N + 1 from ⟨ha, hm, hb, hN⟩)
  have HAT := Kp.mk (fun t ht => arr_atSrw (d := d) (P := P) (A := A) (Q := B ++ Q) hd t ht)
  have HBT := Kp.mk (fun t ht => arr_atSrw (d := d) (P := P ++ A) (A := B) (Q := Q) (by rw [hd]; simp) t ht)
  have ham : a + 2 ≤ m := by omega
  have hmb : m + 2 ≤ b := by omega
  have hbd : b ≤ d.size := by omega
  obtain ⟨mid, hmi⟩ : ∃ mid, mid = (a + b) / 2 := ⟨_, rfl⟩
  have hmd : ((a : Int) + (b : Int)) / 2 = (mid : Int) := by omega
  have hm1 : a < mid := by omega
  have hm2 : mid < b := by omega
  have HMI := Kp.mk hmi
  have t0 : ((m : Int) - (a : Int) == 1) = false := by simp; omega
  have t00 : ¬ (m : Int) - (a : Int) = 1 := by omega
  have tb : ((b : Int) - (m : Int) == 1) = false := by simp; omega
  have tb0 : ¬ (b : Int) - (m : Int) = 1 := by omega
  obtain ⟨s0, r0, hsr⟩ : ∃ s0 r0 : Nat, (mid < m ∧ s0 = mid + m - b ∧ r0 = mid) ∨ (m ≤ mid ∧ s0 = a ∧ r0 = m) := by
    by_cases h : mid < m
    · exact ⟨mid + m - b, mid, .inl ⟨h, rfl, rfl⟩⟩
    · exact ⟨a, m, .inr ⟨by omega, rfl, rfl⟩⟩
  have HSR := Kp.mk hsr
  have hsr0 : s0 ≤ r0 ∧ a ≤ s0 ∧ r0 ≤ m ∧ r0 ≤ mid ∧ mid ≤ b + s0 - m := by omega
  obtain ⟨q1, q2, q3, q4, q5⟩ := hsr0
  have ts : (mid < m ∧ decide ((mid : Int) < (m : Int)) = true ∧ (mid : Int) + (m : Int) - (b : Int) = (s0 : Int) ∧ (mid : Int) = (r0 : Int)) ∨ (decide ((mid : Int) < (m : Int)) = false ∧ (a : Int) = (s0 : Int) ∧ (m : Int) = (r0 : Int)) := by
    rcases hsr with ⟨h, h1, h2⟩ | ⟨h, h1, h2⟩
    · exact .inl ⟨h, decide_eq_true (by omega), by omega, by omega⟩
    · exact .inr ⟨decide_eq_false (by omega), by omega, by omega⟩
  clear R S hd hA hB hw hC hs ha hm hb hdl hN ih hmi h1A h1B hsr
  go_enter Try.func88, Try.ntmps88
  go_upto_if 140 with fail
  go_cut [20, 21] (fun s r wx => s = .int .i64 s0 ∧ r = .int .i64 r0 ∧ wx = w)
  case first =>
    as_aux_lemma =>
      rcases ts with ⟨h, h1, h2, h3⟩ | ⟨h1, h2, h3⟩
      all_goals
        go_wp2_with fail
        go_meet
        exact ⟨by first | (congr 1; done) | (congr 1; omega), by first | (congr 1; done) | (congr 1; omega), rfl⟩
  case rest =>
    obtain ⟨rfl, rfl, rfl⟩ := hcut
    clear ts
    obtain ⟨pn, hpn⟩ : ∃ pn, pn = mid + m - 1 := ⟨_, rfl⟩
    have tp0 : (mid : Int) + (m : Int) - 1 = (pn : Int) := by omega
    have HPN := Kp.mk hpn
    clear hpn
    go_wp2_with fail
    go_loopw [20, 21] (fun vs vr wr => ∃ (s r : Nat), vs = .int .i64 s ∧ vr = .int .i64 r ∧ s0 ≤ s ∧ s ≤ r ∧ r ≤ r0 ∧ Kp (s = s0 ∨ ltOf cf d[mid + m - s]! d[s - 1]! = false) ∧ Kp (r = r0 ∨ ltOf cf d[mid + m - 1 - r]! d[r]! = true) ∧ Kp (SWSrw w0 blk d wr)) (fun i j _ => (intOf j).toNat - (intOf i).toNat)
    case atStart => exact ⟨s0, r0, rfl, rfl, Nat.le_refl _, q1, Nat.le_refl _, ⟨.inl rfl⟩, ⟨.inl rfl⟩, HS⟩
    case round =>
      obtain ⟨s, r, rfl, rfl, g1, g2, g3, HFs, HFr, HW⟩ := hrel
      by_cases hlt : s < r
      · have t1 : decide ((s : Int) < (r : Int)) = true := decide_eq_true (by omega)
        obtain ⟨c, hc⟩ : ∃ c, c = (s + r) / 2 := ⟨_, rfl⟩
        have hcm : ((s : Int) + (r : Int)) / 2 = (c : Int) := by omega
        have hsc : s ≤ c := by omega
        have hcr : c < r := by omega
        obtain ⟨u, hu⟩ : ∃ u, u = mid + m - 1 - c := ⟨_, rfl⟩
        have hum : (pn : Int) - (c : Int) = (u : Int) := by have := HPN.out; omega
        have hub : u < b := by omega
        have hwu : IntKind.i64.wrap ((pn : Int) - (c : Int)) = (u : Int) := by rw [hum, IntKind.wrap_i64]; omega
        have hwu2 : IntKind.i64.wrap (u : Int) = (u : Int) := by rw [IntKind.wrap_i64]; omega
        have hu0 : (0 : Int) ≤ (u : Int) := by omega
        have HU := Kp.mk hu
        have HNs := Kp.mk (show ltOf cf d[u]! d[c]! = false → ltOf cf d[mid + m - (c + 1)]! d[c + 1 - 1]! = false from fun h => by rw [show mid + m - (c + 1) = u by omega, Nat.add_sub_cancel]; exact h)
        have HNr := Kp.mk (show ltOf cf d[u]! d[c]! = true → ltOf cf d[mid + m - 1 - c]! d[c]! = true from fun h => by rw [← hu]; exact h)
        have G1 := SWSrw.gat HW.out HR.out HS0.out u (by omega)
        have G2 := SWSrw.gat HW.out HR.out HS0.out c (by omega)
        obtain ⟨zu, hzu⟩ : ∃ zu, zu = d[u]! := ⟨_, rfl⟩
        obtain ⟨zc, hzc⟩ : ∃ zc, zc = d[c]! := ⟨_, rfl⟩
        rw [← hzu] at G1
        rw [← hzc] at G2
        have HZZ := Kp.mk (And.intro hzu hzc)
        have gc0 : ∀ n os, (grow (wr.drewN n) os).cell? ⟨blk, u * 2, none⟩ = some (.string zu.1) := fun n os => by have := (G1 n os).c0; rwa [Nat.zero_add] at this
        have gc1 : ∀ n os, (grow (wr.drewN n) os).cell? ⟨blk, u * 2 + 1, none⟩ = some (.int .i64 zu.2) := fun n os => by have := (G1 n os).c1; rwa [Nat.zero_add] at this
        have gc2 : ∀ n os, (grow (wr.drewN n) os).cell? ⟨blk, c * 2, none⟩ = some (.string zc.1) := fun n os => by have := (G2 n os).c0; rwa [Nat.zero_add] at this
        have gc3 : ∀ n os, (grow (wr.drewN n) os).cell? ⟨blk, c * 2 + 1, none⟩ = some (.int .i64 zc.2) := fun n os => by have := (G2 n os).c1; rwa [Nat.zero_add] at this
        have r1 : (u : Int) < (d.size : Int) := by omega
        have r2 : (c : Int) < (d.size : Int) := by omega
        have HSG := Kp.mk (fun n os => SWK.grown HW.out n os)
        have HG := Kp.mk (And.intro g1 g3)
        clear G1 G2 HW hc hu hzu hzc
        by_cases hl : cf zu zc < 0
        · have t2 : decide (cf zu zc < 0) = true := decide_eq_true hl
          have HN := Kp.mk (HNr.out (by rw [← HZZ.out.1, ← HZZ.out.2]; exact t2))
          go_wp2_with fail
          go_quiet_grown (first | (go_at_call 61; refine Calls.grown_of (HC.out.at _ _ _ _ _)))
          go_wp2_with fail
          go_roundw
          case rel => exact ⟨s, c, rfl, by go_num, g1, hsc, by omega, HFs, ⟨.inr HN.out⟩, ⟨HSG.out _ _⟩⟩
          case measure => simp [intOf]; omega
        · have t2 : decide (cf zu zc < 0) = false := decide_eq_false hl
          have HN := Kp.mk (HNs.out (by rw [← HZZ.out.1, ← HZZ.out.2]; exact t2))
          go_wp2_with fail
          go_quiet_grown (first | (go_at_call 61; refine Calls.grown_of (HC.out.at _ _ _ _ _)))
          go_wp2_with fail
          go_roundw
          case rel => exact ⟨c + 1, r, by go_num, rfl, by omega, by omega, g3, ⟨.inr HN.out⟩, HFr, ⟨HSG.out _ _⟩⟩
          case measure => simp [intOf]; omega
      · obtain rfl : s = r := by omega
        have t1 : ¬ (s : Int) < (s : Int) := by omega
        obtain ⟨e, he⟩ : ∃ e, e = mid + m - s := ⟨_, rfl⟩
        have hse : (mid : Int) + (m : Int) - (s : Int) = (e : Int) := by omega
        have hsm : s ≤ m := by omega
        have has : a ≤ s := by omega
        have hsd : s ≤ mid := by omega
        have hme : m ≤ e := by omega
        have heb : e ≤ b := by omega
        obtain ⟨A1, A2, B1, B2, hA1, hA2, hB1, hB2⟩ : ∃ A1 A2 B1 B2, A1 = A.take (s - a) ∧ A2 = A.drop (s - a) ∧ B1 = B.take (e - m) ∧ B2 = B.drop (e - m) := ⟨_, _, _, _, rfl, rfl, rfl, rfl⟩
        have HLN := Kp.mk (show A1.length = s - a ∧ A2.length = m - s ∧ B1.length = e - m ∧ B2.length = b - e by
          have := HAM.out
          rw [hA1, hA2, hB1, hB2, List.length_take, List.length_drop, List.length_take, List.length_drop]
          omega)
        have HPT := Kp.mk (show mrg (ltOf cf) A B = mrg (ltOf cf) A1 B1 ++ mrg (ltOf cf) A2 B2 by
          have hAMo := HAM.out
          rw [hA1, hA2, hB1, hB2]
          refine mrg_parts HWO.out HAS.out HBS.out (s - a) (e - m) ?_ ?_
          · rcases HFs.out with h | h
            · rcases HSR.out with ⟨k1, k2, k3⟩ | ⟨k1, k2, k3⟩
              · exact .inr (.inl (by omega))
              · exact .inl (by omega)
            · by_cases h8 : s - a = 0
              · exact .inl h8
              · by_cases h9 : B.length ≤ e - m
                · exact .inr (.inl h9)
                · refine .inr (.inr ⟨d[s - 1]!, d[e]!, ?_, ?_, by rw [he]; exact h⟩)
                  · have := HAT.out (s - a - 1) (by omega)
                    rw [this, show P.length + (s - a - 1) = s - 1 by omega]
                  · have := HBT.out (e - m) (by omega)
                    rw [List.length_append] at this
                    rw [this, show P.length + A.length + (e - m) = e by omega]
          · rcases HFr.out with h | h
            · rcases HSR.out with ⟨k1, k2, k3⟩ | ⟨k1, k2, k3⟩
              · exact .inr (.inl (by omega))
              · exact .inl (by omega)
            · by_cases h8 : A.length ≤ s - a
              · exact .inl h8
              · by_cases h9 : e - m = 0
                · exact .inr (.inl h9)
                · refine .inr (.inr ⟨d[s]!, d[e - 1]!, ?_, ?_, by rw [show e - 1 = mid + m - 1 - s by omega]; exact h⟩)
                  · have := HAT.out (s - a) (by omega)
                    rw [this, show P.length + (s - a) = s by omega]
                  · have := HBT.out (e - m - 1) (by omega)
                    rw [List.length_append] at this
                    rw [this, show P.length + A.length + (e - m - 1) = e - 1 by omega])
        have HSA := Kp.mk (show Srt (ltOf cf) A1 ∧ Srt (ltOf cf) A2 ∧ Srt (ltOf cf) B1 ∧ Srt (ltOf cf) B2 by
          rw [hA1, hA2, hB1, hB2]
          exact ⟨HAS.out.sublist (List.take_sublist _ _), HAS.out.sublist (List.drop_sublist _ _), HBS.out.sublist (List.take_sublist _ _), HBS.out.sublist (List.drop_sublist _ _)⟩)
        have HDP := Kp.mk (show d.toList = P ++ (A1 ++ (A2 ++ (B1 ++ (B2 ++ Q)))) by
          rw [HD.out, hA1, hA2, hB1, hB2]
          conv => lhs; rw [← List.take_append_drop (s - a) A, ← List.take_append_drop (e - m) B]
          simp only [List.append_assoc])
        have HE := Kp.mk he
        clear hA1 hA2 hB1 hB2 he HFs HFr HAT HBT
        go_upto_region 39 with fail
        obtain ⟨bc, hbc⟩ : ∃ bc : Bool, bc = decide (s < m ∧ m < e) := ⟨_, rfl⟩
        go_cut [185] (fun v wx => v = .bool bc ∧ wx = wr)
        case first =>
          as_aux_lemma =>
            by_cases c1 : s < m
            · have t2 : decide ((s : Int) < (m : Int)) = true := decide_eq_true (by omega)
              by_cases c2 : m < e
              · have t3 : decide ((m : Int) < (e : Int)) = true := decide_eq_true (by omega)
                have HB := Kp.mk (show bc = true by rw [hbc]; exact decide_eq_true ⟨c1, c2⟩)
                clear hbc
                go_wp2_with fail
                go_meet
                exact ⟨by rw [HB.out], rfl⟩
              · have t3 : decide ((m : Int) < (e : Int)) = false := decide_eq_false (by omega)
                have HB := Kp.mk (show bc = false by rw [hbc]; exact decide_eq_false (fun h => c2 h.2))
                clear hbc
                go_wp2_with fail
                go_meet
                exact ⟨by rw [HB.out], rfl⟩
            · have t2 : decide ((s : Int) < (m : Int)) = false := decide_eq_false (by omega)
              have HB := Kp.mk (show bc = false by rw [hbc]; exact decide_eq_false (fun h => c1 h.1))
              clear hbc
              go_wp2_with fail
              go_meet
              exact ⟨by rw [HB.out], rfl⟩
        case rest =>
        obtain ⟨rfl, rfl⟩ := hcut
        go_upto_if 185 with fail
        go_cut [24] (fun v wx => v = .int .i64 e ∧ ∃ d2, Kp (SWSrw w0 blk d2 wx) ∧ Kp (d2.size = d.size) ∧ Kp (d2.toList = P ++ (A1 ++ (B1 ++ (A2 ++ (B2 ++ Q))))))
        case first =>
          as_aux_lemma =>
            by_cases c1 : s < m
            · by_cases c2 : m < e
              · obtain rfl : bc = true := hbc.trans ( decide_eq_true ⟨c1, c2⟩); clear hbc
                have HRO := Kp.mk (fun wr S => ss_rotate blk cap (P ++ A1) A2 B1 (B2 ++ Q) d0 d (.func (.func 61) #[] #[]) w0 wr HR.out HS0.out S (by rw [HDP.out]; simp only [List.append_assoc]) (by have := HLN.out; omega) (by have := HLN.out; omega) hsz s m e
                  (by rw [List.length_append]; have := HLN.out; have := HAM.out; omega) (by rw [List.length_append]; have := HLN.out; have := HAM.out; omega) (by rw [List.length_append]; have := HLN.out; have := HAM.out; omega))
                go_wp2_with fail
                refine (HRO.out _ HW.out).mono ?_
                rintro e2 w2 ⟨rfl, d2, S2, z2, l2⟩
                have HS2 := Kp.mk S2
                have HZ2 := Kp.mk z2
                have HL2 := Kp.mk l2
                clear S2 z2 l2
                go_wp2_with fail
                go_meet
                exact ⟨rfl, d2, HS2, HZ2, ⟨by rw [HL2.out]; simp only [List.append_assoc]⟩⟩
              · obtain rfl : bc = false := hbc.trans ( decide_eq_false (fun h => c2 h.2)); clear hbc
                have HBN := Kp.mk (show B1 = [] from List.length_eq_zero_iff.1 (by have := HLN.out; omega))
                go_wp2_with fail
                go_meet
                exact ⟨rfl, d, HW, ⟨rfl⟩, ⟨by rw [HDP.out, HBN.out]; simp⟩⟩
            · obtain rfl : bc = false := hbc.trans ( decide_eq_false (fun h => c1 h.1)); clear hbc
              have HBN := Kp.mk (show A2 = [] from List.length_eq_zero_iff.1 (by have := HLN.out; omega))
              go_wp2_with fail
              go_meet
              exact ⟨rfl, d, HW, ⟨rfl⟩, ⟨by rw [HDP.out, HBN.out]; simp⟩⟩
        case rest =>
          obtain ⟨rfl, d2, HW2, HZ2, HL2⟩ := hcut
          go_upto_region 41 with fail
          obtain ⟨bc, hbc⟩ : ∃ bc : Bool, bc = decide (a < s ∧ s < mid) := ⟨_, rfl⟩
          go_cut [199] (fun v wx => v = .bool bc ∧ wx = wc)
          case first =>
            as_aux_lemma =>
              by_cases c1 : a < s
              · have t2 : decide ((a : Int) < (s : Int)) = true := decide_eq_true (by omega)
                by_cases c2 : s < mid
                · have t3 : decide ((s : Int) < (mid : Int)) = true := decide_eq_true (by omega)
                  have HB := Kp.mk (show bc = true by rw [hbc]; exact decide_eq_true ⟨c1, c2⟩)
                  clear hbc
                  go_wp2_with fail
                  go_meet
                  exact ⟨by rw [HB.out], rfl⟩
                · have t3 : decide ((s : Int) < (mid : Int)) = false := decide_eq_false (by omega)
                  have HB := Kp.mk (show bc = false by rw [hbc]; exact decide_eq_false (fun h => c2 h.2))
                  clear hbc
                  go_wp2_with fail
                  go_meet
                  exact ⟨by rw [HB.out], rfl⟩
              · have t2 : decide ((a : Int) < (s : Int)) = false := decide_eq_false (by omega)
                have HB := Kp.mk (show bc = false by rw [hbc]; exact decide_eq_false (fun h => c1 h.1))
                clear hbc
                go_wp2_with fail
                go_meet
                exact ⟨by rw [HB.out], rfl⟩
          case rest =>
          obtain ⟨rfl, rfl⟩ := hcut
          go_upto_if 199 with fail
          go_cut [24] (fun v wx => v = .int .i64 e ∧ ∃ d3, Kp (SWSrw w0 blk d3 wx) ∧ Kp (d3.size = d.size) ∧ Kp (d3.toList = P ++ (mrg (ltOf cf) A1 B1 ++ (A2 ++ (B2 ++ Q)))))
          case first =>
            as_aux_lemma =>
              by_cases c1 : a < s
              · by_cases c2 : s < mid
                · obtain rfl : bc = true := hbc.trans ( decide_eq_true ⟨c1, c2⟩); clear hbc
                  have hr := fun wr S => IH.out P A1 B1 (A2 ++ (B2 ++ Q)) d2 wr (by have := HLN.out; have := HAM.out; have := HE.out; omega) (by have := HLN.out; omega) (by have := HLN.out; have := HE.out; omega) (HZ2.out.trans HS0.out) S HL2.out HSA.out.1 HSA.out.2.2.1 (by rw [HZ2.out]; exact hsz) a s mid
                    HAM.out.1 (by have := HLN.out; have := HAM.out; omega) (by have := HLN.out; have := HAM.out; have := HE.out; omega)
                  rw [HZ2.out] at hr
                  have HRO := Kp.mk hr
                  clear hr
                  go_wp2_with fail
                  refine (HRO.out _ HW2.out).mono ?_
                  rintro e2 w2 ⟨rfl, d3, S2, z2, l2⟩
                  have HS3 := Kp.mk S2
                  have HZ3 := Kp.mk z2
                  have HL3 := Kp.mk l2
                  clear S2 z2 l2
                  go_wp2_with fail
                  go_meet
                  exact ⟨rfl, d3, HS3, HZ3, HL3⟩
                · obtain rfl : bc = false := hbc.trans ( decide_eq_false (fun h => c2 h.2)); clear hbc
                  have HBN := Kp.mk (show B1 = [] from List.length_eq_zero_iff.1 (by have := HLN.out; have := HE.out; omega))
                  go_wp2_with fail
                  go_meet
                  exact ⟨rfl, d2, HW2, HZ2, ⟨by rw [HL2.out, HBN.out, mrg_nil]; simp⟩⟩
              · obtain rfl : bc = false := hbc.trans ( decide_eq_false (fun h => c1 h.1)); clear hbc
                have HBN := Kp.mk (show A1 = [] from List.length_eq_zero_iff.1 (by have := HLN.out; omega))
                go_wp2_with fail
                go_meet
                exact ⟨rfl, d2, HW2, HZ2, ⟨by rw [HL2.out, HBN.out, nil_mrg]; simp⟩⟩
          case rest =>
            obtain ⟨rfl, d3, HW3, HZ3, HL3⟩ := hcut
            have HML := Kp.mk (mrg_lenSrw (ltOf cf) _ A1 B1 (Nat.le_refl _))
            by_cases c1 : mid < e
            · have t2 : decide ((mid : Int) < (e : Int)) = true := decide_eq_true (by omega)
              by_cases c2 : e < b
              · have t3 : decide ((e : Int) < (b : Int)) = true := decide_eq_true (by omega)
                have hr := fun wr S => IH.out (P ++ mrg (ltOf cf) A1 B1) A2 B2 Q d3 wr (by have := HLN.out; have := HAM.out; have := HE.out; omega) (by have := HLN.out; have := HE.out; omega) (by have := HLN.out; omega) (HZ3.out.trans HS0.out) S (by rw [HL3.out]; simp only [List.append_assoc]) HSA.out.2.1 HSA.out.2.2.2 (by rw [HZ3.out]; exact hsz) mid e b
                  (by rw [List.length_append, HML.out]; have := HLN.out; have := HAM.out; have := HE.out; omega) (by rw [List.length_append, HML.out]; have := HLN.out; have := HAM.out; have := HE.out; omega) (by rw [List.length_append, HML.out]; have := HLN.out; have := HAM.out; have := HE.out; omega)
                rw [HZ3.out] at hr
                have HRO := Kp.mk hr
                clear hr
                go_wp2_with fail
                refine (HRO.out _ HW3.out).mono ?_
                rintro e2 w2 ⟨rfl, d4, S2, z2, l2⟩
                have HS4 := Kp.mk S2
                have HZ4 := Kp.mk z2
                have HL4 := Kp.mk l2
                clear S2 z2 l2
                go_wp2_with fail
                go_end0
                exact ⟨rfl, d4, HS4.out, HZ4.out, by rw [HL4.out, HPT.out]; simp only [List.append_assoc]⟩
              · have t3 : decide ((e : Int) < (b : Int)) = false := decide_eq_false (by omega)
                have HBN := Kp.mk (show B2 = [] from List.length_eq_zero_iff.1 (by have := HLN.out; omega))
                go_wp2_with fail
                go_end0
                exact ⟨rfl, d3, HW3.out, HZ3.out, by rw [HL3.out, HPT.out, HBN.out, mrg_nil]; simp⟩
            · have t2 : decide ((mid : Int) < (e : Int)) = false := decide_eq_false (by omega)
              have HBN := Kp.mk (show A2 = [] from List.length_eq_zero_iff.1 (by have := HLN.out; have := HE.out; omega))
              go_wp2_with fail
              go_end0
              exact ⟨rfl, d3, HW3.out, HZ3.out, by rw [HL3.out, HPT.out, HBN.out, nil_mrg]; simp⟩
end Go.Proofs.Ytocnecbhpofdgaa
