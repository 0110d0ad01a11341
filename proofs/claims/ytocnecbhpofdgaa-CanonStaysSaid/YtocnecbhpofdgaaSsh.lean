/- A stable sort at abutment/api.Field: the sort of insertion, laid (bin/mkssh.py). -/
import Derived.Test.YtocnecbhpofdgaaSsg
import Derived.Test.YtocnecbhpofdgaaShs
import Derived.Test.YtocnecbhpofdgaaSsi
import Derived.Shelf.SlSortCmp.PdqK
import Derived.Ground.SlsfProg
namespace Go.Proofs.Ytocnecbhpofdgaa
open Go.RowKit Go.Shelf Go.Lib Go.Sort
set_option linter.unusedVariables false
set_option linter.unusedSimpArgs false

theorem ss_insertionSfd (cf : Sfd → Sfd → Int) (hw : Swo (ltOf cf)) (hC : CmpTSfd cf) (blk cap : Nat) (P X Q : List Sfd) (d0 d : Array Sfd) (w0 w : World) (R : RwSfd w0 blk d0) (hs : d.size = d0.size) (S : SWSfd w0 blk d w)
    (hd : d.toList = P ++ (X ++ Q)) (hsz : d.size ≤ 1000000) (a b : Nat) (ha : a = P.length) (hb : b = P.length + X.length) :
    Calls Try.prog 82 #[.slice (some ⟨blk, 0, none⟩) d.size cap, .int .i64 a, .int .i64 b, .func (.func 54) #[] #[]] w fun e w' => e = .returned (.tuple #[]) ∧ ∃ d', SWSfd w0 blk d' w' ∧ d'.size = d.size ∧ d'.toList = P ++ (isrt (ltOf cf) X ++ Q) := by
  have hdl := arr_size hd
  simp only [List.length_append] at hdl
  refine (AnyQ.insertionSortCmpFunc_w Ytocnecbhpofdgaa.insSfd 2 Try.isAgg64 Try.sizeOf64 encSfd cf 54 #[] blk 0 cap a b d0 d w0 w (enters_of Try.func54 (by kernel_rfl) rfl) (fun m os dk _ x y => hC x y _) R hs.symm S hw.sorted (by omega) (by omega) (by omega)).mono ?_
  rintro e w' ⟨he, hS⟩
  have hl := insertion_list hw P X Q d hd ha hb
  exact ⟨he, _, hS, by rw [arr_size hl, arr_size hd]; simp [isrt_length], hl⟩

set_option maxRecDepth 100000 in
set_option maxHeartbeats 4000000 in
theorem ss_stableSfd (cf : Sfd → Sfd → Int) (hw : Swo (ltOf cf)) (hC : CmpTSfd cf) (blk cap n : Nat) (L : List Sfd) (d0 d : Array Sfd) (w0 w : World) (R : RwSfd w0 blk d0) (hs : d.size = d0.size) (S : SWSfd w0 blk d w) (hd : d.toList = L) (hn : n = d.size) (hsz : n ≤ 100000) :
    Calls Try.prog 70 #[.slice (some ⟨blk, 0, none⟩) n cap, .int .i64 n, .func (.func 54) #[] #[]] w fun e w' => e = .returned (.tuple #[]) ∧ ∃ d', SWSfd w0 blk d' w' ∧ d'.size = d.size ∧ d'.toList = isrt (ltOf cf) L := by
  have HN := Kp.mk hn
  have HLN := Kp.mk (show L.length = n by rw [← hd, Array.length_toList, hn])
  have HS0 := Kp.mk hs
  have HWO := Kp.mk hw
  have HS := Kp.mk S
  have HD := Kp.mk hd
  have INS := Kp.mk (fun (P X Q : List Sfd) (dk : Array Sfd) (wr : World) (hz : dk.size = n) (S : SWSfd w0 blk dk wr) (hd : dk.toList = P ++ (X ++ Q)) (a b : Nat) (ha : a = P.length) (hb : b = P.length + X.length) => by
    have := ss_insertionSfd cf hw hC blk cap P X Q d0 dk w0 wr R (by omega) S hd (by omega) a b ha hb
    rw [hz] at this
    exact this)
  have SYM := Kp.mk (fun (P A B Q : List Sfd) (dk : Array Sfd) (wr : World) (h1 : 0 < A.length) (h2 : 0 < B.length) (hz : dk.size = n) (S : SWSfd w0 blk dk wr) (hd : dk.toList = P ++ (isrt (ltOf cf) A ++ (isrt (ltOf cf) B ++ Q))) (a m b : Nat) (ha : a = P.length) (hm : m = P.length + A.length) (hb : b = P.length + A.length + B.length) => by
    have := ss_symMergeSfd cf hw hC blk cap d0 w0 R _ P (isrt (ltOf cf) A) (isrt (ltOf cf) B) Q dk wr (Nat.le_refl _) (by rw [isrt_length]; exact h1) (by rw [isrt_length]; exact h2) (by omega) S hd (isrt_srt hw A) (isrt_srt hw B) (by omega) a m b ha (by rw [isrt_length]; exact hm) (by rw [isrt_length, isrt_length]; exact hb)
    rw [hz, mrg_isrt hw] at this
    exact this)
  clear R S hd hs hw hC hn
  go_enter Try.func70, Try.ntmps70
  go_wp2_with fail
  go_loopw [7, 8] (fun va vb wr => ∃ (X RX Y : List Sfd) (dk : Array Sfd) (a b : Nat), va = .int .i64 a ∧ vb = .int .i64 b ∧ b = a + 20 ∧ a ≤ n ∧ Kp (L = X ++ Y) ∧ Kp (X.length = a ∧ RX.length = a) ∧ Kp (Bp (ltOf cf) 20 X RX) ∧ Kp (SWSfd w0 blk dk wr) ∧ Kp (dk.size = n) ∧ Kp (dk.toList = RX ++ Y)) (fun va _ _ => n - (intOf va).toNat)
  case atStart => exact ⟨[], [], L, d, 0, 20, rfl, rfl, rfl, by omega, ⟨rfl⟩, ⟨rfl, rfl⟩, ⟨bp_nil _⟩, HS, ⟨HN.out.symm⟩, HD⟩
  case round =>
    obtain ⟨X, RX, Y, dk, a, b, rfl, rfl, hab, han, HL, HX, HB, HW, HZ, HT⟩ := hrel
    have HY := Kp.mk (show Y.length = n - a by have := HLN.out; rw [HL.out, List.length_append, HX.out.1] at this; omega)
    by_cases hbn : b ≤ n
    · have t1 : decide ((b : Int) ≤ (n : Int)) = true := decide_eq_true (by omega)
      obtain ⟨Y1, Y2, HYY, hy1⟩ : ∃ Y1 Y2, Kp (Y = Y1 ++ Y2) ∧ Y1.length = 20 := ⟨Y.take 20, Y.drop 20, ⟨by simp⟩, by rw [List.length_take, HY.out]; omega⟩
      have HI := Kp.mk (INS.out RX Y1 Y2 dk wr HZ.out HW.out (by rw [HT.out, HYY.out]) a b HX.out.2.symm (by rw [HX.out.2, hy1]; exact hab))
      have HAB := Kp.mk hab
      have HY1 := Kp.mk hy1
      clear hy1 hab
      go_wp2_with fail
      refine HI.out.mono ?_
      rintro e w2 ⟨rfl, d2, S2, z2, l2⟩
      have HS2 := Kp.mk S2
      have HZ2 := Kp.mk z2
      have HL2 := Kp.mk l2
      clear S2 z2 l2
      go_wp2_with fail
      go_roundw
      case rel => exact ⟨X ++ Y1, RX ++ isrt (ltOf cf) Y1, Y2, d2, b, b + 20, rfl, by go_num, rfl, hbn, ⟨by rw [HL.out, HYY.out, List.append_assoc]⟩, ⟨by rw [List.length_append, HX.out.1, HY1.out, HAB.out], by rw [List.length_append, HX.out.2, isrt_length, HY1.out, HAB.out]⟩, ⟨HB.out.snoc HY1.out⟩, HS2, HZ2, ⟨by rw [HL2.out, List.append_assoc]⟩⟩
      case measure => have := HAB.out; simp [intOf]; omega
    · have t1 : decide ((b : Int) ≤ (n : Int)) = false := decide_eq_false (by omega)
      have HI := Kp.mk (INS.out RX Y [] dk wr HZ.out HW.out (by rw [HT.out, List.append_nil]) a n HX.out.2.symm (by rw [HX.out.2, HY.out]; omega))
      have HB2 := Kp.mk (show Bt (ltOf cf) 20 L (RX ++ isrt (ltOf cf) Y) by rw [HL.out]; exact HB.out _ _ (.last Y (by rw [HY.out]; omega)))
      clear hab
      go_wp2_with fail
      refine HI.out.mono ?_
      rintro e w2 ⟨rfl, d2, S2, z2, l2⟩
      have HS2 := Kp.mk S2
      have HZ2 := Kp.mk z2
      have HL2 := Kp.mk (show Bt (ltOf cf) 20 L d2.toList by rw [l2, List.append_nil]; exact HB2.out)
      clear S2 z2 l2
      go_wp2_with fail
      go_loopw [6, 7, 8] (fun vs va vb wr => ∃ (s : Nat) (dk : Array Sfd), vs = .int .i64 s ∧ 20 ≤ s ∧ s ≤ 200000 ∧ Kp (SWSfd w0 blk dk wr) ∧ Kp (dk.size = n) ∧ Kp (Bt (ltOf cf) s L dk.toList)) (fun vs _ _ _ => n - (intOf vs).toNat)
      case atStart => exact ⟨20, d2, rfl, by omega, by omega, HS2, HZ2, HL2⟩
      case round =>
        obtain ⟨s, dj, rfl, hs20, hs2, HW3, HZ3, HT3⟩ := hrel
        by_cases hsn : s < n
        · have t2 : decide ((s : Int) < (n : Int)) = true := decide_eq_true (by omega)
          have hss : s + s ≤ 200000 := by omega
          have HST := Kp.mk (And.intro hs20 hss)
          have tm : (2 : Int) * (s : Int) = ((s + s : Nat) : Int) := by omega
          have tm2 : (s : Int) * 2 = ((s + s : Nat) : Int) := by omega
          obtain ⟨s2, hs2e⟩ : ∃ s2, s2 = s + s := ⟨_, rfl⟩
          rw [← hs2e] at tm tm2
          have HS2E := Kp.mk hs2e
          clear hs2e
          go_wp2_with fail
          go_loopw [7, 8] (fun va vb wr => ∃ (X RX Z : List Sfd) (R : List Sfd) (dk : Array Sfd) (a b : Nat), va = .int .i64 a ∧ vb = .int .i64 b ∧ b = a + s2 ∧ a ≤ n ∧ Kp (L = X ++ Z) ∧ Kp (X.length = a ∧ RX.length = a) ∧ Kp (Bp (ltOf cf) s2 X RX) ∧ Kp (Bt (ltOf cf) s Z R) ∧ Kp (SWSfd w0 blk dk wr) ∧ Kp (dk.size = n) ∧ Kp (dk.toList = RX ++ R)) (fun va _ _ => n - (intOf va).toNat)
          case atStart => exact ⟨[], [], L, dj.toList, dj, 0, s2, rfl, rfl, by omega, by omega, ⟨rfl⟩, ⟨rfl, rfl⟩, ⟨bp_nil _⟩, HT3, HW3, HZ3, ⟨rfl⟩⟩
          case round =>
            obtain ⟨X, RX, Z, R, dk, a, b, rfl, rfl, hab, han, HL, HX, HB, HR, HW, HZ, HT⟩ := hrel
            have HY := Kp.mk (show Z.length = n - a by have := HLN.out; rw [HL.out, List.length_append, HX.out.1] at this; omega)
            have HAB := Kp.mk hab
            have hsl : s < s2 := by have := HS2E.out; omega
            by_cases hbn : b ≤ n
            · have t1 : decide ((b : Int) ≤ (n : Int)) = true := decide_eq_true (by omega)
              obtain ⟨Y1, Z1, R1, hZ1, hy1, hR1, hB1⟩ := HR.out.head (by rw [HY.out]; have := HS2E.out; omega)
              obtain ⟨Y2, Z2, R2, hZ2, hy2, hR2, hB2⟩ := hB1.head (by have := HY.out; rw [hZ1, List.length_append, hy1] at this; have := HS2E.out; omega)
              have HI := Kp.mk (SYM.out RX Y1 Y2 R2 dk wr (by omega) (by omega) HZ.out HW.out (by rw [HT.out, hR1, hR2]) a (a + s) b HX.out.2.symm (by rw [HX.out.2, hy1]) (by rw [HX.out.2, hy1, hy2, hab]; have := HS2E.out; omega))
              have HLE := Kp.mk (show (Y1 ++ Y2).length = s2 by rw [List.length_append, hy1, hy2]; exact HS2E.out.symm)
              have HLZ := Kp.mk (show L = X ++ (Y1 ++ Y2) ++ Z2 by rw [HL.out, hZ1, hZ2]; simp)
              have HB2 := Kp.mk hB2
              clear hZ1 hy1 hR1 hB1 hZ2 hy2 hR2 hB2 hab
              go_wp2_with fail
              refine HI.out.mono ?_
              rintro e w2 ⟨rfl, d2, S2, z2, l2⟩
              have HS2 := Kp.mk S2
              have HZ2 := Kp.mk z2
              have HL2 := Kp.mk l2
              clear S2 z2 l2
              go_wp2_with fail
              go_roundw
              case rel => exact ⟨X ++ (Y1 ++ Y2), RX ++ isrt (ltOf cf) (Y1 ++ Y2), Z2, R2, d2, b, b + s2, rfl, by go_num, rfl, hbn, HLZ, ⟨by rw [List.length_append, HX.out.1, HLE.out, HAB.out], by rw [List.length_append, HX.out.2, isrt_length, HLE.out, HAB.out]⟩, ⟨HB.out.snoc HLE.out⟩, HB2, HS2, HZ2, ⟨by rw [HL2.out, List.append_assoc]⟩⟩
              case measure => have := HAB.out; have := HST.out; have := HS2E.out; simp [intOf]; omega
            · have t1 : decide ((b : Int) ≤ (n : Int)) = false := decide_eq_false (by omega)
              by_cases hmn : a + s < n
              · have t3 : decide ((a : Int) + (s : Int) < (n : Int)) = true := decide_eq_true (by omega)
                obtain ⟨Y1, Z1, R1, hZ1, hy1, hR1, hB1⟩ := HR.out.head (by rw [HY.out]; omega)
                have hz1 : Z1.length = n - a - s := by have := HY.out; rw [hZ1, List.length_append, hy1] at this; omega
                have hR1s : R1 = isrt (ltOf cf) Z1 := hB1.small (by have := HS2E.out; omega)
                have HI := Kp.mk (SYM.out RX Y1 Z1 [] dk wr (by omega) (by omega) HZ.out HW.out (by rw [HT.out, hR1, hR1s, List.append_nil]) a (a + s) n HX.out.2.symm (by rw [HX.out.2, hy1]) (by rw [HX.out.2, hy1, hz1]; omega))
                have HFB := Kp.mk (show Bt (ltOf cf) s2 L (RX ++ isrt (ltOf cf) (Y1 ++ Z1)) by
                  rw [HL.out, hZ1]
                  exact HB.out _ _ (.last _ (by rw [List.length_append, hy1, hz1]; omega)))
                clear hZ1 hy1 hR1 hB1 hab hz1 hR1s
                go_wp2_with fail
                refine HI.out.mono ?_
                rintro e w2 ⟨rfl, d2, S2, z2, l2⟩
                have HS2 := Kp.mk S2
                have HZ2 := Kp.mk z2
                have HL2 := Kp.mk (show Bt (ltOf cf) s2 L d2.toList by rw [l2, List.append_nil]; exact HFB.out)
                clear S2 z2 l2
                go_wp2_with fail
                go_roundw
                case rel => exact ⟨s2, d2, by go_num, by have := HST.out; omega, by have := HST.out; have := HS2E.out; omega, HS2, HZ2, HL2⟩
                case measure => have := HST.out; have := HS2E.out; simp [intOf]; omega
              · have t3 : decide ((a : Int) + (s : Int) < (n : Int)) = false := decide_eq_false (by omega)
                have HFB := Kp.mk (show Bt (ltOf cf) s2 L dk.toList by
                  have hr : R = isrt (ltOf cf) Z := HR.out.small (by rw [HY.out]; omega)
                  rw [HL.out, HT.out, hr]
                  exact HB.out _ _ (.last _ (by rw [HY.out]; omega)))
                clear hab
                go_wp2_with fail
                go_roundw
                case rel => exact ⟨s2, dk, by go_num, by have := HST.out; omega, by have := HST.out; have := HS2E.out; omega, HW, HZ, HFB⟩
                case measure => have := HST.out; have := HS2E.out; simp [intOf]; omega
        · have t2 : decide ((s : Int) < (n : Int)) = false := decide_eq_false (by omega)
          have HFI := Kp.mk (HT3.out.small (by rw [HLN.out]; omega))
          go_wp2_with fail
          go_end0
          exact ⟨rfl, dj, HW3.out, HZ3.out.trans HN.out, HFI.out⟩
set_option maxRecDepth 100000 in
set_option maxHeartbeats 4000000 in
theorem ss_sortSfd (cf : Sfd → Sfd → Int) (hw : Swo (ltOf cf)) (hC : CmpTSfd cf) (blk cap n : Nat) (d0 : Array Sfd) (w0 : World) (R : RwSfd w0 blk d0) (hn : n = d0.size) (hsz : n ≤ 100000) :
    Calls Try.prog 53 #[.slice (some ⟨blk, 0, none⟩) n cap, .func (.func 54) #[] #[]] w0 fun e w' => e = .returned (.tuple #[]) ∧ ∃ d', SWSfd w0 blk d' w' ∧ d'.size = d0.size ∧ d'.toList = isrt (ltOf cf) d0.toList := by
  have HC := Kp.mk (ss_stableSfd cf hw hC blk cap n d0.toList d0 d0 w0 w0 R rfl (SWK.start R.hH) rfl hn hsz)
  clear R hn hw hC
  go_enter Try.func53, Try.ntmps53
  go_wp2_with fail
  refine HC.out.mono ?_
  rintro e w2 ⟨rfl, d2, S2, z2, l2⟩
  have HS2 := Kp.mk S2
  have HZ2 := Kp.mk z2
  have HL2 := Kp.mk l2
  clear S2 z2 l2
  go_wp2_with fail
  go_end0
  exact ⟨rfl, d2, HS2.out, HZ2.out, HL2.out⟩
end Go.Proofs.Ytocnecbhpofdgaa
