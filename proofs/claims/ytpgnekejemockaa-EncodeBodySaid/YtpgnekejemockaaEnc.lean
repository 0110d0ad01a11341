/- Bodies (layer 25): the program's Begin, End, Last, wrong trailers, fits. -/
import Derived.Test.YtpgnekejemockaaEnb
import Derived.Test.YtpgnekejemockaaHde
namespace Go.Proofs.Ytpgnekejemockaa
open Go.RowKit
set_option linter.unusedVariables false
set_option linter.unusedSimpArgs false

theorem ebegin_any (n : Int) (w : World) (h0 : -9223372036854775808 ≤ n) (h1 : n ≤ 9223372036854775807) :
    Calls Try.prog 23 #[.int .i64 n] w fun e w' => e = .returned (.string (begS n)) ∧ Below w.heap.size w w' := by
  by_cases hn : n < 1
  · have HQ := Kp.mk (show begS n = ⟨#[]⟩ by unfold begS; rw [if_pos hn])
    go_enter Try.func23, Try.ntmps23
    go_wp2_with fail
    go_ret
    exact ⟨by rw [HQ.out]; rfl, Below.refl _ _⟩
  · have HQ := Kp.mk (show begS n = lineS n by unfold begS; rw [if_neg hn])
    have hn2 : 1 ≤ n := by omega
    go_enter Try.func23, Try.ntmps23
    go_wp2_with fail
    refine (line_any n _ h0 h1).mono ?_
    rintro e w2 ⟨rfl, hb⟩
    go_wp2_with fail
    go_ret
    exact ⟨by rw [HQ.out]; rfl, hb⟩
theorem rbegin_any (n : Int) (w : World) (h0 : -9223372036854775808 ≤ n) (h1 : n ≤ 9223372036854775807) :
    Calls Try.prog 24 #[.int .i64 n] w fun e w' => e = .returned (.string (begS n)) ∧ Below w.heap.size w w' := by
  by_cases hn : n < 1
  · have HQ := Kp.mk (show begS n = ⟨#[]⟩ by unfold begS; rw [if_pos hn])
    go_enter Try.func24, Try.ntmps24
    go_wp2_with fail
    go_ret
    exact ⟨by rw [HQ.out]; rfl, Below.refl _ _⟩
  · have HQ := Kp.mk (show begS n = lineS n by unfold begS; rw [if_neg hn])
    have hn2 : 1 ≤ n := by omega
    go_enter Try.func24, Try.ntmps24
    go_wp2_with fail
    refine (rline_any n _ h0 h1).mono ?_
    rintro e w2 ⟨rfl, hb⟩
    go_wp2_with fail
    go_ret
    exact ⟨by rw [HQ.out]; rfl, hb⟩
theorem eend_any (w : World) : Calls Try.prog 41 #[] w fun e w' => e = .returned (.string crlf) ∧ w = w' := by
  go_enter Try.func41, Try.ntmps41
  go_wp2_with fail
  go_ret
  exact ⟨rfl, rfl⟩
def FldQ (p : Fld) : Prop := p.1.size ≤ 100 ∧ p.2.size ≤ 300
set_option maxRecDepth 100000 in
set_option maxHeartbeats 2000000 in
theorem elast_any (v : Value) (l : List Fld) (w : World) (hv : RdF w v l) (hz : ∀ p ∈ l, FldQ p) (hl : l.length ≤ 100) :
    Calls Try.prog 25 #[v] w fun e w' => e = .returned (.string (lstF l)) ∧ Below w.heap.size w w' := by
  have HV := Kp.mk hv
  have HZ := Kp.mk hz
  obtain ⟨a, c, rfl, -, -, -⟩ := hv
  clear hz
  have HR := Kp.mk (show lstF l = trlF (lineS 0) l ++ crlf from rfl)
  have hl0 := lineS_size 0
  go_enter Try.func25, Try.ntmps25
  go_wp2_with fail
  refine (line_any 0 _ (by omega) (by omega)).mono ?_
  rintro e w1 ⟨rfl, hb1⟩
  have HB1 := Kp.mk hb1
  clear hb1
  generalize lineS 0 = t0 at *
  go_wp2_with fail
  go_loopw [3, 9] (fun vt vi wr => ∃ k : Nat, k ≤ l.length ∧ vi = .int .i64 k ∧ vt = .string (trlF t0 (l.take k)) ∧ Below w.heap.size w wr) (fun _ vi _ => l.length - (intOf vi).toNat)
  case atStart => exact ⟨0, Nat.zero_le _, rfl, rfl, HB1.out⟩
  case round =>
    obtain ⟨k, hk, rfl, rfl, hb⟩ := hrel
    have HBK := Kp.mk hb
    have hszk := hb.size
    clear hb
    have htk := trlF_size t0 (l.take k) fun p hp => HZ.out p (List.mem_of_mem_take hp)
    rw [List.length_take] at htk
    have htk2 : (trlF t0 (l.take k)).size ≤ 50000 := by omega
    clear htk
    by_cases hlt : k < l.length
    · obtain ⟨b, o, rfl, hbl, d⟩ := rdf_cells (HV.out.below HBK.out) (by omega)
      obtain ⟨d1, d2⟩ := d k hlt
      have HS := Kp.mk (HZ.out _ (List.getElem_mem hlt))
      have HT := Kp.mk (trlF_take (t := t0) hlt)
      clear d
      generalize l[k] = f at *
      obtain ⟨x, y⟩ := f
      dsimp only [FldQ] at d1 d2 HS HT
      generalize trlF t0 (l.take k) = T at *
      have hfs := fLine_size (n := x) (v := y)
      have hx1 := HS.out.1
      have hx2 := HS.out.2
      have q1 : (k : Int) < (l.length : Int) := by omega
      have q0 : (0 : Int) ≤ (k : Int) := by omega
      go_wp2_with fail
      refine (fline_any x y _ (by omega) (by omega)).mono ?_
      rintro e w2 ⟨rfl, hb2⟩
      have HB2 := Kp.mk (show Below w.heap.size w w2 from (HBK.out.alloc hszk (.cells #[.string x, .string y] 86)).trans (hb2.mono (by simp; omega)))
      clear hb2
      generalize fLine x y = z at *
      have hcs : (⟨#[13, 10]⟩ : ByteArray).size = 2 := rfl
      have hz1 : (z ++ (⟨#[13, 10]⟩ : ByteArray)).size ≤ 1000 := by rw [ByteArray.size_append]; omega
      have hz2 : (T ++ z).size ≤ 60000 := by rw [ByteArray.size_append]; omega
      go_wp2_with fail
      go_roundw
      case rel => exact ⟨k + 1, by omega, by go_num, by rw [HT.out]; (try rfl), HB2.out⟩
      case measure => simp [intOf]; omega
    · have hkn : k = l.length := by omega
      subst hkn
      have HTL := Kp.mk (show trlF t0 (l.take l.length) = trlF t0 l by rw [List.take_length])
      rw [HTL.out] at htk2 ⊢
      go_wp2_with fail
      go_ret
      exact ⟨by rw [HR.out]; rfl, HBK.out⟩
theorem zeroline : lineS 0 = ⟨#[48, 13, 10]⟩ := by decide +kernel
set_option maxRecDepth 100000 in
set_option maxHeartbeats 2000000 in
theorem rlast25_any (v : Value) (l : List Fld) (w : World) (hv : RdF w v l) (hz : ∀ p ∈ l, FldQ p) (hl : l.length ≤ 100) :
    Calls Try.prog 26 #[v] w fun e w' => e = .returned (.string (lstF l)) ∧ Below w.heap.size w w' := by
  have HV := Kp.mk hv
  have HZ := Kp.mk hz
  obtain ⟨a, c, rfl, -, -, -⟩ := hv
  clear hz
  have HR := Kp.mk (show lstF l = trlF (lineS 0) l ++ crlf from rfl)
  have hl0 := lineS_size 0
  have HZL := Kp.mk zeroline
  have HB1 := Kp.mk (Below.refl w.heap.size w)
  go_enter Try.func26, Try.ntmps26
  go_wp2_with fail
  rw [← HZL.out]
  clear HZL
  generalize lineS 0 = t0 at *
  go_loopw [3, 4] (fun vt vi wr => ∃ k : Nat, k ≤ l.length ∧ vi = .int .i64 k ∧ vt = .string (trlF t0 (l.take k)) ∧ Below w.heap.size w wr) (fun _ vi _ => l.length - (intOf vi).toNat)
  case atStart => exact ⟨0, Nat.zero_le _, rfl, rfl, HB1.out⟩
  case round =>
    obtain ⟨k, hk, rfl, rfl, hb⟩ := hrel
    have HBK := Kp.mk hb
    have hszk := hb.size
    clear hb
    have htk := trlF_size t0 (l.take k) fun p hp => HZ.out p (List.mem_of_mem_take hp)
    rw [List.length_take] at htk
    have htk2 : (trlF t0 (l.take k)).size ≤ 50000 := by omega
    clear htk
    by_cases hlt : k < l.length
    · obtain ⟨b, o, rfl, hbl, d⟩ := rdf_cells (HV.out.below HBK.out) (by omega)
      obtain ⟨d1, d2⟩ := d k hlt
      have HS := Kp.mk (HZ.out _ (List.getElem_mem hlt))
      have HT := Kp.mk (trlF_take (t := t0) hlt)
      clear d
      generalize l[k] = f at *
      obtain ⟨x, y⟩ := f
      dsimp only [FldQ] at d1 d2 HS HT
      generalize trlF t0 (l.take k) = T at *
      have hfs := fLine_size (n := x) (v := y)
      have hx1 := HS.out.1
      have hx2 := HS.out.2
      have q1 : (k : Int) < (l.length : Int) := by omega
      have q0 : (0 : Int) ≤ (k : Int) := by omega
      go_wp2_with fail
      refine (rfline_any x y _ (by omega) (by omega)).mono ?_
      rintro e w2 ⟨rfl, hb2⟩
      have HB2 := Kp.mk (show Below w.heap.size w w2 from HBK.out.trans (hb2.mono hszk))
      clear hb2
      generalize fLine x y = z at *
      have hcs : (⟨#[13, 10]⟩ : ByteArray).size = 2 := rfl
      have hz1 : (z ++ (⟨#[13, 10]⟩ : ByteArray)).size ≤ 1000 := by rw [ByteArray.size_append]; omega
      have hz2 : (T ++ z).size ≤ 60000 := by rw [ByteArray.size_append]; omega
      go_wp2_with fail
      go_roundw
      case rel => exact ⟨k + 1, by omega, by go_num, by rw [HT.out, ← ByteArray.append_assoc]; rfl, HB2.out⟩
      case measure => simp [intOf]; omega
    · have hkn : k = l.length := by omega
      subst hkn
      have HTL := Kp.mk (show trlF t0 (l.take l.length) = trlF t0 l by rw [List.take_length])
      rw [HTL.out] at htk2 ⊢
      go_wp2_with fail
      go_ret
      exact ⟨by rw [HR.out]; rfl, HBK.out⟩
theorem ewrong_any (x y : ByteArray) (w : World) (hx : FldQ (x, y)) :
    Calls Try.prog 42 #[.agg #[.string x, .string y]] w fun e w' => e = .returned (.bool (!fRight x y)) ∧ Below w.heap.size w w' := by
  have h1 := hx.1
  have h2 := hx.2
  dsimp only at h1 h2
  have HB := Kp.mk ((Below.refl w.heap.size w).alloc (Nat.le_refl _) (.cells #[.string x, .string y] 86))
  have HF := Kp.mk (fun W => fright_any x y W (by omega) (by omega))
  generalize fRight x y = r at *
  cases r
  all_goals
    go_enter Try.func42, Try.ntmps42
    go_wp2_with fail
    refine (HF.out _).mono ?_
    rintro e w1 ⟨rfl, hb⟩
    have HB1 := Kp.mk (HB.out.trans (hb.mono HB.out.size))
    clear hb
    go_wp2_with fail
    go_ret
    exact ⟨rfl, HB1.out⟩
theorem anyW_take {l : List Fld} {k : Nat} (h : k < l.length) : anyW (l.take (k + 1)) = (anyW (l.take k) || !fRight l[k].1 l[k].2) := by
  unfold anyW
  rw [List.take_succ_eq_append_getElem h, List.any_append]
  simp
theorem anyW_hit {l : List Fld} {k : Nat} (h : k < l.length) (hf : fRight l[k].1 l[k].2 = false) : anyW l = true := by
  unfold anyW
  exact List.any_eq_true.2 ⟨l[k], List.getElem_mem h, by simp [hf]⟩
def IdfW (l : List Fld) (w : World) (e : Ending) (w' : World) : Prop := ∃ r : Int, e = .returned (.int .i64 r) ∧ decide (0 ≤ r) = anyW l ∧ Below w.heap.size w w'
set_option maxRecDepth 100000 in
set_option maxHeartbeats 2000000 in
theorem ixw_any (v : Value) (l : List Fld) (w : World) (hv : RdF w v l) (hz : ∀ p ∈ l, FldQ p) (hl : l.length ≤ 100) :
    Calls Try.prog 77 #[v, .func (.func 42) #[] #[]] w (IdfW l w) := by
  have HV := Kp.mk hv
  have HZ := Kp.mk hz
  obtain ⟨a, cap, rfl, -, -, -⟩ := hv
  clear hz
  have HB0 := Kp.mk (Below.refl w.heap.size w)
  unfold IdfW
  go_enter Try.func77, Try.ntmps77
  go_wp2_with fail
  go_loopw [8] (fun i wr => ∃ k : Nat, k ≤ l.length ∧ i = .int .i64 k ∧ anyW (l.take k) = false ∧ Below w.heap.size w wr) (fun i _ => l.length - (intOf i).toNat)
  case atStart => exact ⟨0, by omega, rfl, rfl, HB0.out⟩
  case round =>
    obtain ⟨k, hk, rfl, hh, hb⟩ := hrel
    have HB := Kp.mk hb
    have HH := Kp.mk hh
    have hsz := hb.size
    clear hh hb
    by_cases hlt : k < l.length
    · obtain ⟨g, o, rfl, hgl, d0⟩ := rdf_cells (HV.out.below HB.out) (by omega)
      obtain ⟨c1, c2⟩ := d0 k hlt
      have HS := Kp.mk (HZ.out _ (List.getElem_mem hlt))
      have q0 : (0 : Int) ≤ (k : Int) := by omega
      have q1 : (k : Int) < (l.length : Int) := by omega
      have HT := Kp.mk (anyW_take hlt)
      have HHit := Kp.mk (anyW_hit hlt)
      clear d0
      generalize l[k] = f at *
      obtain ⟨x, y⟩ := f
      dsimp only at c1 c2 HT HHit
      have HWR := Kp.mk (fun W => ewrong_any x y W HS.out)
      go_wp2_with fail
      refine (HWR.out _).mono ?_
      rintro e w2 ⟨rfl, hb2⟩
      have HB2 := Kp.mk (HB.out.trans (hb2.mono hsz))
      clear hb2 HWR
      cases hf : fRight x y
      · have HT2 := Kp.mk (HHit.out hf)
        go_wp2_with fail
        go_ret
        exact ⟨_, rfl, by rw [HT2.out]; exact decide_eq_true (by omega), HB2.out⟩
      · have HT2 := Kp.mk (show anyW (l.take (k + 1)) = false by rw [HT.out, hf, HH.out]; rfl)
        go_wp2_with fail
        go_roundw
        case rel => exact ⟨k + 1, by omega, by go_num, HT2.out, HB2.out⟩
        case measure => simp [intOf]; omega
    · have HK := Kp.mk (show anyW l = false by have := HH.out; rwa [List.take_of_length_le (by omega)] at this)
      go_wp2_with fail
      go_ret
      exact ⟨-1, rfl, by rw [HK.out]; rfl, HB.out⟩
theorem cow_any (v : Value) (l : List Fld) (w : World) (hv : RdF w v l) (hz : ∀ p ∈ l, FldQ p) (hl : l.length ≤ 100) :
    Calls Try.prog 45 #[v, .func (.func 42) #[] #[]] w fun e w' => e = .returned (.bool (anyW l)) ∧ Below w.heap.size w w' := by
  have HI := Kp.mk (ixw_any v l w hv hz hl)
  unfold IdfW at HI
  clear hv hz
  go_enter Try.func45, Try.ntmps45
  go_wp2_with fail
  refine HI.out.mono ?_
  rintro e w1 ⟨r, rfl, hr, hb⟩
  have HR := Kp.mk hr
  clear hr
  go_wp2_with fail
  go_ret
  exact ⟨by rw [← HR.out]; rfl, hb⟩
end Go.Proofs.Ytpgnekejemockaa
