/- A stable sort at abutment/tally.Row: stretches that change places, rotation (bin/mkssc.py). -/
import Derived.Test.YtocnecbhpofdgaaSsb
import Derived.Test.YtocnecbhpofdgaaGb
import Derived.Shelf.SlSortCmp.KitK
import Derived.Test.YtocnecbhpofdgaaProg
import Derived.BigRegion
import Derived.Deep.RegionWith
namespace Go.Proofs.Ytocnecbhpofdgaa
open Go.RowKit Go.Shelf Go.Lib Go.Sort
set_option linter.unusedVariables false
set_option linter.unusedSimpArgs false


abbrev Srw := ByteArray × Int
def encSrw (x : Srw) : List Value := [.string x.1, .int .i64 x.2]
theorem encSrw_len (x : Srw) : (encSrw x).length = 2 := rfl
abbrev SWSrw (w0 : World) (blk : Nat) (d : Array Srw) (w : World) : Prop := SWK encSrw 2 w0 blk 0 d w
abbrev RwSrw (w0 : World) (blk : Nat) (d : Array Srw) : Prop := RowK encSrw 2 w0 blk 0 d
structure AtSrw (w : World) (blk i : Nat) (x : Srw) : Prop where
  c0 : w.cell? ⟨blk, 0 + i * 2, none⟩ = some (.string x.1)
  c1 : w.cell? ⟨blk, 0 + i * 2 + 1, none⟩ = some (.int .i64 x.2)
  f0 : w.frozen? ⟨blk, 0 + i * 2, none⟩ = false
  f1 : w.frozen? ⟨blk, 0 + i * 2 + 1, none⟩ = false
theorem SWSrw.at {w0 w : World} {blk : Nat} {d d0 : Array Srw} (S : SWSrw w0 blk d w) (R : RwSrw w0 blk d0) (hs : d.size = d0.size) (i : Nat) (hi : i < d.size) : AtSrw w blk i d[i]! := by
  have h : HoldsK encSrw 2 w blk 0 d := S.holds R.hblk R.hH hs
  have hb := rowK_bnd d 2 i hi
  have hsz : (flatK encSrw 2 d).size = d.size * 2 := size_flatK _ _ _
  have h0 := HoldsK.cells h R.hk hi 0 _ rfl
  have h1 := HoldsK.cells h R.hk hi 1 _ rfl
  rw [Addr.add_lit] at h0 h1
  exact ⟨h0, h1, (h (i * 2) (by omega)).2, (h (i * 2 + 1) (by omega)).2⟩
theorem swp_szS {α : Type} [Inhabited α] (d : Array α) (i j : Nat) : (swp d i j).size = d.size := by simp [swp]
set_option maxRecDepth 100000 in
set_option maxHeartbeats 4000000 in
theorem ss_swapRange (blk cap a b n : Nat) (d0 d : Array Srw) (fv : Value) (w0 w : World) (R : RwSrw w0 blk d0) (hs : d.size = d0.size) (S : SWSrw w0 blk d w) (hab : a + n ≤ b) (hb : b + n ≤ d.size) (hsz : d.size ≤ 1000000) :
    Calls Try.prog 120 #[.slice (some ⟨blk, 0, none⟩) d.size cap, .int .i64 a, .int .i64 b, .int .i64 n, fv] w fun e w' => e = .returned (.tuple #[]) ∧ SWSrw w0 blk (swN d a b n) w' := by
  have HR := Kp.mk R
  have HS := Kp.mk S
  clear R S
  go_enter Try.func120, Try.ntmps120
  go_wp2_with fail
  go_loopw [10] (fun i wr => ∃ k : Nat, k ≤ n ∧ i = .int .i64 k ∧ Kp (SWSrw w0 blk (swN d a b k) wr)) (fun i _ => n - (intOf i).toNat)
  case atStart => exact ⟨0, by omega, rfl, HS⟩
  case round =>
    obtain ⟨k, hk, rfl, HW⟩ := hrel
    have hds : (swN d a b k).size = d.size := swN_size d a b k
    by_cases hlt : k < n
    · have hnx := Kp.mk (show swN d a b (k + 1) = swp (swN d a b k) (a + k) (b + k) from rfl)
      generalize swN d a b k = dk at *
      obtain ⟨cx0, cx1, fx0, fx1⟩ := SWSrw.at HW.out HR.out (by omega) (a + k) (by omega)
      obtain ⟨cy0, cy1, fy0, fy1⟩ := SWSrw.at HW.out HR.out (by omega) (b + k) (by omega)
      have HSW := Kp.mk (SWK.swapped HW.out HR.out (a + k) (b + k) (by omega) (by omega))
      have HDS := Kp.mk hds
      generalize dk[a + k]! = x at *
      generalize dk[b + k]! = y at *
      simp only [Nat.zero_add] at cx0 cx1 fx0 fx1 cy0 cy1 fy0 fy1
      have q0 : (0 : Int) ≤ (a : Int) + (k : Int) := by omega
      have q1 : (a : Int) + (k : Int) < (d.size : Int) := by omega
      have q2 : (0 : Int) ≤ (b : Int) + (k : Int) := by omega
      have q3 : (b : Int) + (k : Int) < (d.size : Int) := by omega
      have ea : ((a : Int) + (k : Int)).toNat = a + k := by omega
      have eb : ((b : Int) + (k : Int)).toNat = b + k := by omega
      have ne : ¬ (b + k) * 2 = (a + k) * 2 := by omega
      have ne2 : ¬ (b + k) * 2 = (a + k) * 2 + 1 := by omega
      have ne3 : ¬ (b + k) * 2 + 1 = (a + k) * 2 := by omega
      have ne4 : ¬ (a + k) * 2 = (b + k) * 2 := by omega
      have ne5 : ¬ (a + k) * 2 = (b + k) * 2 + 1 := by omega
      have ne6 : ¬ (a + k) * 2 + 1 = (b + k) * 2 := by omega
      clear hds HW
      go_wp2_with fail
      go_region
      go_wp2_with fail
      go_roundw
      case rel =>
        refine ⟨k + 1, by omega, by go_num, ⟨?_⟩⟩
        rw [hnx.out]
        have h := HSW.out
        simp only [Nat.zero_add] at h
        exact h
      case measure => simp [intOf]; omega
    · obtain rfl : k = n := by omega
      go_wp2_with fail
      go_end0
      exact ⟨rfl, HW.out⟩
/-- What rotation leaves: two stretches that stood one behind the other have changed places. -/
theorem rot_more {α : Type} {P U1 U2 V Q : List α} : P ++ (V ++ ((U2 ++ (U1 ++ Q)))) = (P ++ V) ++ (U2 ++ (U1 ++ Q)) := by simp
set_option maxRecDepth 100000 in
set_option maxHeartbeats 4000000 in
theorem ss_rotate (blk cap : Nat) (P U V Q : List Srw) (d0 d : Array Srw) (fv : Value) (w0 w : World) (R : RwSrw w0 blk d0) (hs : d.size = d0.size) (S : SWSrw w0 blk d w) (hd : d.toList = P ++ (U ++ (V ++ Q))) (hU : 0 < U.length) (hV : 0 < V.length) (hsz : d.size ≤ 1000000)
    (a m b : Nat) (ha : a = P.length) (hm : m = P.length + U.length) (hb : b = P.length + U.length + V.length) :
    Calls Try.prog 103 #[.slice (some ⟨blk, 0, none⟩) d.size cap, .int .i64 a, .int .i64 m, .int .i64 b, fv] w fun e w' => e = .returned (.tuple #[]) ∧ ∃ d', SWSrw w0 blk d' w' ∧ d'.size = d.size ∧ d'.toList = P ++ (V ++ (U ++ Q)) := by
  have HR := Kp.mk R
  have HS0 := Kp.mk hs
  have HS := Kp.mk S
  have HD := Kp.mk hd
  have hdl := arr_size hd
  simp only [List.length_append] at hdl
  have HDL := Kp.mk hdl
  have HAM := Kp.mk (show a = P.length ∧ m = P.length + U.length ∧ b = P.length + U.length + V.length from ⟨ha, hm, hb⟩)
  have hmi : (m : Int) - (a : Int) = (U.length : Int) := by omega
  have hbj : (b : Int) - (m : Int) = (V.length : Int) := by omega
  clear R S hd ha hm hb hs
  go_enter Try.func103, Try.ntmps103
  go_wp2_with fail
  clear hmi hbj hdl
  go_loopw [10, 11] (fun i j wr => ∃ (P2 U2 V2 Q2 : List Srw) (d2 : Array Srw), i = .int .i64 U2.length ∧ j = .int .i64 V2.length ∧ Kp (SWSrw w0 blk d2 wr) ∧ Kp (d2.size = d.size) ∧ Kp (d2.toList = P2 ++ (U2 ++ (V2 ++ Q2))) ∧ Kp (P2 ++ (V2 ++ (U2 ++ Q2)) = P ++ (V ++ (U ++ Q))) ∧ 0 < U2.length ∧ 0 < V2.length ∧ P2.length + U2.length = m ∧ m + V2.length + Q2.length = d.size) (fun i j _ => (intOf i).toNat + (intOf j).toNat)
  case atStart => exact ⟨P, U, V, Q, d, rfl, rfl, HS, ⟨rfl⟩, HD, ⟨rfl⟩, hU, hV, by have := HAM.out; omega, by have := HDL.out; have := HAM.out; omega⟩
  case round =>
    obtain ⟨P2, U2, V2, Q2, d2, rfl, rfl, HW, HZ, H2, HE, h1, h2, h3, h4⟩ := hrel
    have hz := HZ.out
    have H34 := Kp.mk (And.intro h3 h4)
    clear h4
    have hml : m + V2.length ≤ d.size := by have := H34.out; omega
    have hpm : P2.length ≤ m := by omega
    obtain ⟨p2, hp2⟩ : ∃ p2, p2 = P2.length := ⟨_, rfl⟩
    have HP2 := Kp.mk hp2
    have HSW := Kp.mk (fun n w S (h1 : p2 + n ≤ m) (h2 : m + n ≤ d.size) => ss_swapRange blk cap p2 m n d0 d2 fv w0 w HR.out (HZ.out.trans HS0.out) S h1 (by omega) (by omega))
    rw [hz] at HSW
    have HSV := Kp.mk (fun n w S (h1 : (m - n) + n ≤ m + V2.length - n) (h2 : m + V2.length - n + n ≤ d.size) => ss_swapRange blk cap (m - n) (m + V2.length - n) n d0 d2 fv w0 w HR.out (HZ.out.trans HS0.out) S h1 (by omega) (by omega))
    rw [hz] at HSV
    by_cases he : U2.length = V2.length
    · have HFI := Kp.mk (swR_list (M := []) (by simpa using H2.out) he (a := p2) (b := m) (n := U2.length) hp2 (by simp; omega) rfl)
      have HFZ := Kp.mk (swN_size d2 p2 m U2.length)
      have t1 : ((U2.length : Int) != (V2.length : Int)) = false := by simp; omega
      have hpi : (m : Int) - (U2.length : Int) = (p2 : Int) := by omega
      have b1 : p2 + U2.length ≤ m := by omega
      have b2 : m + U2.length ≤ d.size := by omega
      clear hz he h3 hp2
      go_wp2_with fail
      refine (HSW.out _ _ HW.out b1 b2).mono ?_
      rintro e w2 ⟨rfl, S2⟩
      have HS2 := Kp.mk S2
      clear S2
      go_wp2_with fail
      go_end0
      refine ⟨rfl, _, HS2.out, HFZ.out.trans HZ.out, ?_⟩
      rw [HFI.out, ← HE.out]
      simp
    · have t1 : ((U2.length : Int) != (V2.length : Int)) = true := by simp; omega
      by_cases hgt : V2.length < U2.length
      · obtain ⟨U3, U4, HU, hl3⟩ : ∃ U3 U4, Kp (U2 = U3 ++ U4) ∧ U3.length = V2.length := ⟨U2.take V2.length, U2.drop V2.length, ⟨by simp⟩, by simp; omega⟩
        have hl4 : U4.length = U2.length - V2.length := by have := congrArg List.length HU.out; rw [List.length_append] at this; omega
        have HFI := Kp.mk (swR_list (d := d2) (P := P2) (U := U3) (M := U4) (V := V2) (Q := Q2) (by rw [H2.out, HU.out]; simp) hl3 (a := p2) (b := m) (n := V2.length) hp2 (by omega) hl3.symm)
        have HFZ := Kp.mk (swN_size d2 p2 m V2.length)
        have t2 : decide ((V2.length : Int) < (U2.length : Int)) = true := decide_eq_true (by omega)
        have hpi : (m : Int) - (U2.length : Int) = (p2 : Int) := by omega
        have b1 : p2 + V2.length ≤ m := by omega
        have b2 : m + V2.length ≤ d.size := by omega
        have HL := Kp.mk (And.intro hl3 hl4)
        have H3 := Kp.mk h3
        have hui : (U2.length : Int) - (V2.length : Int) = (U4.length : Int) := by omega
        clear hz he h3 hp2 hl3 hl4
        go_wp2_with fail
        refine (HSW.out _ _ HW.out b1 b2).mono ?_
        rintro e w2 ⟨rfl, S2⟩
        have HS2 := Kp.mk S2
        clear S2
        go_wp2_with fail
        go_roundw
        case rel =>
          refine ⟨P2 ++ V2, U4, U3, Q2, swN d2 p2 m V2.length, rfl, by rw [HL.out.1], HS2, ⟨HFZ.out.trans HZ.out⟩, ⟨by rw [HFI.out]; simp⟩, ⟨by rw [← HE.out, HU.out]; simp⟩, by have := HL.out; omega, by have := HL.out; omega, ?_, ?_⟩
          · rw [List.length_append]; have := HL.out; have := H3.out; have := HP2.out; omega
          · have := HL.out; have := H34.out; omega
        case measure => have := HL.out; simp [intOf]; omega
      · obtain ⟨V3, V4, HV, hl4⟩ : ∃ V3 V4, Kp (V2 = V3 ++ V4) ∧ V4.length = U2.length := ⟨V2.take (V2.length - U2.length), V2.drop (V2.length - U2.length), ⟨by simp⟩, by simp; omega⟩
        have hl3 : V3.length = V2.length - U2.length := by have := congrArg List.length HV.out; rw [List.length_append] at this; omega
        have HFI := Kp.mk (swR_list (d := d2) (P := P2) (U := U2) (M := V3) (V := V4) (Q := Q2) (by rw [H2.out, HV.out]; simp) hl4.symm (a := m - U2.length) (b := m + V2.length - U2.length) (n := U2.length) (by omega) (by omega) rfl)
        have HFZ := Kp.mk (swN_size d2 (m - U2.length) (m + V2.length - U2.length) U2.length)
        have t2 : decide ((V2.length : Int) < (U2.length : Int)) = false := decide_eq_false (by omega)
        have hpi : (m : Int) - (U2.length : Int) = ((m - U2.length : Nat) : Int) := by omega
        have hqi : (m : Int) + (V2.length : Int) - (U2.length : Int) = ((m + V2.length - U2.length : Nat) : Int) := by omega
        have b1 : (m - U2.length) + U2.length ≤ m + V2.length - U2.length := by omega
        have b2 : m + V2.length - U2.length + U2.length ≤ d.size := by omega
        have HL := Kp.mk (And.intro hl3 hl4)
        have H3 := Kp.mk h3
        have hui : (V2.length : Int) - (U2.length : Int) = (V3.length : Int) := by omega
        have HV3 := Kp.mk (show 0 < V3.length ∧ 0 < V4.length by omega)
        have HX := Kp.mk (fun w S => HSV.out U2.length w S)
        clear HSV
        generalize m - U2.length = x1 at *
        generalize m + V2.length - U2.length = x2 at *
        clear hz he h3 hp2 hl3 hl4
        go_wp2_with fail
        refine (HX.out _ HW.out b1 b2).mono ?_
        rintro e w2 ⟨rfl, S2⟩
        have HS2 := Kp.mk S2
        clear S2
        go_wp2_with fail
        go_roundw
        case rel =>
          refine ⟨P2, V4, V3, U2 ++ Q2, swN d2 x1 x2 U2.length, by rw [HL.out.2], rfl, HS2, ⟨HFZ.out.trans HZ.out⟩, ⟨by rw [HFI.out] <;> simp⟩, ⟨by rw [← HE.out, HV.out]; simp⟩, HV3.out.2, HV3.out.1, ?_, ?_⟩
          · have := HL.out; have := H3.out; omega
          · rw [List.length_append]; have := HL.out; have := H34.out; omega
        case measure => have := HL.out; simp [intOf]; omega
end Go.Proofs.Ytocnecbhpofdgaa
