/- Lines that begin chunks, both sides (extracted of Chc, Che). -/
import Derived.Test.YtpgnekejemockaaGb
import Derived.Test.YtpgnekejemockaaTxt
import Derived.OpenShut
import Derived.Deep.DeepCutAuto
namespace Go.Proofs.Ytpgnekejemockaa
open Go.RowKit
set_option linter.unusedVariables false
set_option linter.unusedSimpArgs false

theorem app_listE (a b : ByteArray) : (a ++ b).data.toList = a.data.toList ++ b.data.toList := by simp
def lineS (n : Int) : ByteArray := if n < 0 then ⟨#[]⟩ else ofL (hexL n) ++ ⟨#[13, 10]⟩
theorem hexL_len (n : Int) : (hexL n).length ≤ 20 := by unfold hexL; split; · simp
                                                        · exact wdig_len _ _ _
theorem line_any (n : Int) (w : World) (h0 : -9223372036854775808 ≤ n) (h1 : n ≤ 9223372036854775807) :
    Calls Try.prog 50 #[.int .i64 n] w fun e w' => e = .returned (.string (lineS n)) ∧ Below w.heap.size w w' := by
  by_cases hn : n < 0
  · have HQ := Kp.mk (show lineS n = ⟨#[]⟩ by unfold lineS; rw [if_pos hn])
    go_enter Try.func50, Try.ntmps50
    go_wp2_with fail
    go_ret
    exact ⟨by rw [HQ.out]; rfl, Below.refl _ _⟩
  · have HQ := Kp.mk (show lineS n = ofL (hexL n) ++ ⟨#[13, 10]⟩ by unfold lineS; rw [if_neg hn])
    have hsz : (ofL (hexL n)).size ≤ 20 := by rw [ofL_size]; exact hexL_len n
    have hn2 : 0 ≤ n := by omega
    go_enter Try.func50, Try.ntmps50
    go_wp2_with fail
    refine (hextext_any _ _ h0 h1).mono ?_
    rintro e w1 ⟨rfl, hb1⟩
    go_wp2_with fail
    go_ret
    exact ⟨by rw [HQ.out]; rfl, hb1⟩

def signsB : ByteArray := ⟨#[48, 49, 50, 51, 52, 53, 54, 55, 56, 57, 97, 98, 99, 100, 101, 102]⟩
theorem signsB_eq : (⟨#[48, 49, 50, 51, 52, 53, 54, 55, 56, 57, 97, 98, 99, 100, 101, 102]⟩ : ByteArray) = signsB := rfl
theorem signsB_size : signsB.size = 16 := rfl
theorem signs_one : ∀ d, d < 16 → (signsB.extract d (d + 1)).data.toList = [sgn d] := by decide +kernel

theorem rem16 (m : Nat) (w : World) (hm : m < 9223372036854775808) : (binOp .rem 141 (.int .u64 (m : Int)) (.int .u64 16)).run Try.prog w = .ok (.int .u64 ((m % 16 : Nat) : Int)) w := by
  have d1 : ((m : Int).tmod 16) = ((m % 16 : Nat) : Int) := by rw [Int.tmod_eq_emod_of_nonneg (by omega)]; omega
  go_simp

set_option maxRecDepth 100000 in
set_option maxHeartbeats 4000000 in
theorem rdigits16 (n : Nat) (w : World) (hn : n < 9223372036854775808) :
    Calls Try.prog 114 #[.int .u64 n, .int .u64 16] w fun e w' => e = .returned (.string (ofL (wdig 16 1 n))) ∧ Below w.heap.size w w' := by
  go_enter Try.func114, Try.ntmps114
  go_wp2_with fail
  rw [signsB_eq]
  have hss := signsB_size
  go_loopw [0, 6] (fun t o wr => ∃ (m : Nat) (x : ByteArray), t = .int .u64 m ∧ o = .string x ∧ m < 9223372036854775808 ∧ x.size ≤ 20 ∧ m * 16 ^ x.size ≤ n ∧ (x.size = 0 ∨ 0 < m) ∧ wdig 16 1 n = wdigAux 16 1 (20 - x.size) m x.data.toList ∧ ∃ q, wr = w.drewN q) (fun t _ _ => (intOf t).toNat)
  case atStart => exact ⟨n, ⟨#[]⟩, rfl, rfl, hn, by decide, by simp [ByteArray.size], .inl rfl, rfl, 0, rfl⟩
  case round =>
    obtain ⟨m, x, rfl, rfl, hm, hx20, hpw, hpos, hwd, q, rfl⟩ := hrel
    have HPW := Kp.mk hpw
    have HPOS := Kp.mk hpos
    have HWD := Kp.mk hwd
    clear hpw hpos hwd
    have hroom : 0 < m → x.size < 20 := fun h => by
      rcases Nat.lt_or_ge x.size 20 with h1 | h1
      · exact h1
      · exact absurd (pow_room (by omega) HPW.out h (by omega) h1) id
    by_cases hge : 16 ≤ m
    · have hr := hroom (by omega)
      have hd : m % 16 < 16 := Nat.mod_lt _ (by omega)
      have hrem := fun w => rem16 m w hm
      have HDV := Kp.mk (show ((m : Int) / 16) = ((m / 16 : Nat) : Int) by omega)
      have HST := Kp.mk (show wdigAux 16 1 (20 - x.size) m x.data.toList = wdigAux 16 1 (20 - (x.size + 1)) (m / 16) (sgn (m % 16) :: x.data.toList) by
        rw [show 20 - x.size = (20 - (x.size + 1)) + 1 from by omega, wdigAux_step (.inl (by omega))])
      have HPS := Kp.mk (pow_step (b := 16) (k := x.size) (n := m) (n0 := n) (by omega) HPW.out)
      have HDIV := Kp.mk (Nat.div_pos hge (by omega : 0 < 16))
      obtain ⟨d, hdd⟩ : ∃ d, d = m % 16 := ⟨_, rfl⟩
      have HDD := Kp.mk hdd
      rw [← hdd] at hd
      simp only [← hdd] at hrem
      have HD := Kp.mk (signs_one d hd)
      have HAP := Kp.mk (show (signsB.extract d (d + 1) ++ x).data.toList = sgn d :: x.data.toList by rw [app_listE, HD.out]; rfl)
      have hes : (signsB.extract d (d + 1)).size = 1 := by rw [ba_len HD.out]; rfl
      have b0 : (0 : Int) ≤ (d : Int) := by omega
      have b1 : (d : Int) + 1 ≤ 16 := by omega
      clear hdd
      go_wp2_with fail
      go_quiet (fail)
      go_wp2_with fail
      go_roundw
      case rel =>
        have hsz : (signsB.extract d (d + 1) ++ x).size = x.size + 1 := by rw [ba_len HAP.out, List.length_cons, ← ba_size]
        refine ⟨m / 16, signsB.extract d (d + 1) ++ x, by rw [← HDV.out], by rw [← HDD.out], by omega, by omega, by rw [hsz]; exact HPS.out, .inr HDIV.out, by rw [HWD.out, HST.out, hsz, HAP.out, HDD.out], _, rfl⟩
      case measure => simp [intOf]; omega
    · have hm16 : m < 16 := by omega
      have HD := Kp.mk (signs_one m hm16)
      have HAP := Kp.mk (show (signsB.extract m (m + 1) ++ x).data.toList = sgn m :: x.data.toList by rw [app_listE, HD.out]; rfl)
      have hes : (signsB.extract m (m + 1)).size = 1 := by rw [ba_len HD.out]; rfl
      have HFIN := Kp.mk (show ofL (wdig 16 1 n) = signsB.extract m (m + 1) ++ x by
        refine (ba_eq _ _ ?_).symm
        rw [HAP.out, HWD.out]
        have hr : x.size < 20 := by
          rcases HPOS.out with h | h
          · omega
          · exact hroom h
        rw [show 20 - x.size = (20 - (x.size + 1)) + 1 from by omega]
        rw [wdigAux_step (by
          rcases HPOS.out with h | h
          · right; rw [← ba_size]; omega
          · left; exact h), Nat.mod_eq_of_lt hm16, Nat.div_eq_of_lt hm16, wdigAux_stop (by simp)])
      have b0 : (0 : Int) ≤ (m : Int) := by omega
      have b1 : (m : Int) + 1 ≤ 16 := by omega
      go_wp2_with fail
      go_ret
      exact ⟨by rw [HFIN.out]; rfl, gdrewN _ _⟩

theorem rhextext_any (n : Int) (w : World) (h0 : -9223372036854775808 ≤ n) (h1 : n ≤ 9223372036854775807) :
    Calls Try.prog 84 #[.int .i64 n] w fun e w' => e = .returned (.string (ofL (hexL n))) ∧ Below w.heap.size w w' := by
  by_cases hn : n < 0
  · have HQ := Kp.mk (show ofL (hexL n) = ⟨#[]⟩ by unfold hexL; rw [if_pos hn]; rfl)
    go_enter Try.func84, Try.ntmps84
    go_wp2_with fail
    go_ret
    exact ⟨by rw [HQ.out]; rfl, Below.refl _ _⟩
  · obtain ⟨N, rfl⟩ : ∃ N : Nat, n = N := ⟨n.toNat, by omega⟩
    have hN : N < 9223372036854775808 := by omega
    have HQ := Kp.mk (show hexL (N : Int) = wdig 16 1 N by unfold hexL; rw [if_neg hn]; simp)
    clear hn
    go_enter Try.func84, Try.ntmps84
    go_wp2_with fail
    refine (rdigits16 N _ hN).mono ?_
    rintro e w1 ⟨rfl, hb1⟩
    go_wp2_with fail
    go_ret
    exact ⟨by rw [HQ.out]; rfl, hb1⟩
theorem rline_any (n : Int) (w : World) (h0 : -9223372036854775808 ≤ n) (h1 : n ≤ 9223372036854775807) :
    Calls Try.prog 51 #[.int .i64 n] w fun e w' => e = .returned (.string (lineS n)) ∧ Below w.heap.size w w' := by
  by_cases hn : n < 0
  · have HQ := Kp.mk (show lineS n = ⟨#[]⟩ by unfold lineS; rw [if_pos hn])
    go_enter Try.func51, Try.ntmps51
    go_wp2_with fail
    go_ret
    exact ⟨by rw [HQ.out]; rfl, Below.refl _ _⟩
  · have HQ := Kp.mk (show lineS n = ofL (hexL n) ++ ⟨#[13, 10]⟩ by unfold lineS; rw [if_neg hn])
    have hsz : (ofL (hexL n)).size ≤ 20 := by rw [ofL_size]; exact hexL_len n
    have hn2 : 0 ≤ n := by omega
    go_enter Try.func51, Try.ntmps51
    go_wp2_with fail
    refine (rhextext_any _ _ h0 h1).mono ?_
    rintro e w1 ⟨rfl, hb1⟩
    go_wp2_with fail
    go_ret
    exact ⟨by rw [HQ.out]; rfl, hb1⟩

end Go.Proofs.Ytpgnekejemockaa
