/- What is said to caches (layer 21): the law CacheParses. -/
import Derived.Test.YthlkflneldjnjaaCck
import Derived.Test.YthlkflneldjnjaaCce
import Derived.Test.YthlkflneldjnjaaCcg
import Derived.Deep.DeepCutAuto
namespace Go.Proofs.Ythlkflneldjnjaa
open Go.RowKit
set_option linter.unusedVariables false
set_option linter.unusedSimpArgs false

def DirOk (d : Dir) : Prop := d.1.size ≤ maxLen ∧ d.2.1.size ≤ maxLen
theorem dir_of {P : Program} {w : World} {t ts tb : TypeId} {fs : Array Field} {E : List Value} (ht : P.underlying t = some (.struct fs)) (hs : P.underlying ts = some .string) (hb : P.underlying tb = some .bool) (hc : P.cellsOf t = 3) (hc1 : P.cellsOf ts = 1) (hc2 : P.cellsOf tb = 1)
    (h0 : ∃ f, fs[0]? = some f ∧ f.type = ts ∧ f.offset = 0) (h1 : ∃ f, fs[1]? = some f ∧ f.type = ts ∧ f.offset = 1) (h2 : ∃ f, fs[2]? = some f ∧ f.type = tb ∧ f.offset = 2) (h : Rdb P w t E) : ∃ d : Dir, E = dirC d ∧ DirOk d := by
  obtain ⟨hl, hf⟩ := h.struct ht
  obtain ⟨f0, e0, t0, o0⟩ := h0
  obtain ⟨f1, e1, t1, o1⟩ := h1
  obtain ⟨f2, e2, t2, o2⟩ := h2
  have g0 := hf 0 f0 e0
  have g1 := hf 1 f1 e1
  have g2 := hf 2 f2 e2
  rw [t0, o0, hc1] at g0
  rw [t1, o1, hc1] at g1
  rw [t2, o2, hc2] at g2
  obtain ⟨s0, k0, z0⟩ := g0.str hs
  obtain ⟨s1, k1, z1⟩ := g1.str hs
  obtain ⟨b2, k2⟩ := g2.bool hb
  rw [hc] at hl
  match E, hl with
  | [x, y, z], _ =>
    simp at k0 k1 k2
    exact ⟨(s0, s1, b2), by simp [dirC, k0, k1, k2], z0, z1⟩
theorem Try.fcellsDi : Try.prog.cellsOf 50 = 3 := by kernel_rfl
theorem Try.fcellsBo : Try.prog.cellsOf 4 = 1 := by kernel_rfl
theorem dlist_arg (v : Value) (w : World) (h : Arg Try.prog w 48 v) : ∃ l, RdD w v l ∧ ∀ d ∈ l, DirOk d :=
  h.list (f := dirC) (Q := DirOk) Try.underlying48 Try.fcellsDi (by omega) fun E hE =>
    dir_of Try.underlying50 Try.underlying9 Try.underlying4 Try.fcellsDi Try.fcellsFs Try.fcellsBo ⟨_, rfl, rfl, rfl⟩ ⟨_, rfl, rfl, rfl⟩ ⟨_, rfl, rfl, rfl⟩ hE
theorem ext1000 (s : ByteArray) : (s.extract 0 1000).size ≤ 1000 := by rw [ByteArray.size_extract]; omega
def dSmB (d : Dir) : Prop := d.1.size ≤ 100 ∧ d.2.1.size ≤ 100
theorem bb_same (b : Bool) : (b == b) = true := by cases b <;> rfl
set_option maxRecDepth 100000 in
set_option maxHeartbeats 4000000 in
theorem cparses_walk (s0 : ByteArray) (v : Value) (l : List Dir) (w : World) (hs : s0.size ≤ maxLen) (hv : RdD w v l) (hz : ∀ d ∈ l, DirOk d) :
    Calls Try.prog 10 #[.string s0, v] w fun e w' => e = .returned (.bool true) ∧ Below w.heap.size w w' := by
  unfold maxLen at hs
  have HA := Kp.mk (ext1000 s0)
  have HV := Kp.mk hv
  have HZ := Kp.mk hz
  obtain ⟨a, cap, rfl, hc1, hc2, -⟩ := hv
  clear hc2 hz
  go_enter Try.func10, Try.ntmps10
  go_upto_region 1 with fail
  go_cut [0] (fun u0 wx => ∃ s : ByteArray, u0 = .string s ∧ s.size ≤ 1000 ∧ wx = w)
  case first =>
    by_cases hq : s0.size ≤ 1000
    · have q1 : ¬ (1000 : Int) < (s0.size : Int) := by omega
      go_wp2_with fail
      go_meet
      refine ⟨_, rfl, ?_, rfl⟩
      first | omega | (simp; omega) | (rw [ByteArray.size_extract]; omega)
    · have q1 : (1000 : Int) < (s0.size : Int) := by omega
      go_wp2_with fail
      go_meet
      refine ⟨_, rfl, ?_, rfl⟩
      first | exact HA.out | omega | (simp; omega) | (rw [ByteArray.size_extract]; omega)
  case rest =>
    obtain ⟨s, rfl, hsz, rfl⟩ := hcut
    clear HA hs
    by_cases h20 : l.length ≤ 20
    · have q2 : ¬ (20 : Int) < (l.length : Int) := by omega
      go_wp2_with fail
      go_loopw [26] (fun i wr => ∃ k : Nat, k ≤ l.length ∧ i = .int .i64 k ∧ (∀ (j : Nat) (hj : j < l.length), j < k → dSmB l[j]) ∧ Below wc.heap.size wc wr) (fun i _ => l.length - (intOf i).toNat)
      case atStart => exact ⟨0, by omega, rfl, fun j _ h => by omega, Below.refl _ _⟩
      case round =>
        obtain ⟨k, hk, rfl, hh, hb⟩ := hrel
        have HB := Kp.mk hb
        have HH := Kp.mk hh
        have hszb := hb.size
        clear hh hb
        by_cases hlt : k < l.length
        · obtain ⟨g, o, rfl, hgl, d0⟩ := rdd_cells (HV.out.below HB.out) (by omega)
          obtain ⟨c1, c2, c3⟩ := d0 k hlt
          obtain ⟨z1, z2⟩ := HZ.out l[k] (List.getElem_mem hlt)
          unfold maxLen at z1 z2
          have q0 : (0 : Int) ≤ (k : Int) := by omega
          have q1 : (k : Int) < (l.length : Int) := by omega
          have HN := Kp.mk (fun (ht : dSmB l[k]) => show ∀ (j : Nat) (hj : j < l.length), j < k + 1 → dSmB l[j] from fun j hj h => by
            by_cases hjk : j = k
            · subst hjk; exact ht
            · exact HH.out j hj (by omega))
          clear d0
          generalize l[k] = d at *
          obtain ⟨x, y, b⟩ := d
          dsimp only at c1 c2 c3 z1 z2
          have HBX := Kp.mk (HB.out.alloc hszb (.cells #[.string x, .string y, .bool b] 50))
          by_cases hx : x.size ≤ 100
          · have n1 : ¬ (100 : Int) < (x.size : Int) := by omega
            by_cases hy : y.size ≤ 100
            · have n2 : ¬ (100 : Int) < (y.size : Int) := by omega
              have HN2 := Kp.mk (HN.out ⟨hx, hy⟩)
              go_wp2_with fail
              go_roundw
              case rel => exact ⟨k + 1, by omega, by go_num, HN2.out, HBX.out⟩
              case measure => simp [intOf]; omega
            · have n2 : (100 : Int) < (y.size : Int) := by omega
              go_wp2_with fail
              refine (lives21_any _).mono ?_
              rintro e w9 ⟨rfl, hb9⟩
              have HB9 := Kp.mk (HBX.out.trans (hb9.mono HBX.out.size))
              clear hb9
              go_wp2_with fail
              go_ret
              exact ⟨rfl, HB9.out⟩
          · have n1 : (100 : Int) < (x.size : Int) := by omega
            go_wp2_with fail
            refine (lives21_any _).mono ?_
            rintro e w9 ⟨rfl, hb9⟩
            have HB9 := Kp.mk (HBX.out.trans (hb9.mono HBX.out.size))
            clear hb9
            go_wp2_with fail
            go_ret
            exact ⟨rfl, HB9.out⟩
        · have HSM := Kp.mk (fun d (hd : d ∈ l) => show DirSm d by
            obtain ⟨j, hj, rfl⟩ := List.getElem_of_mem hd
            have := HH.out j hj (by omega)
            exact ⟨by have := this.1; omega, by have := this.2; omega⟩)
          have hpl := prs_len s
          have HP1 := Kp.mk (fun W => parse21_any s W (by omega))
          have HP2 := Kp.mk (fun W => rparse21_any s W (by omega))
          unfold RetD at HP1 HP2
          generalize prs s = D at *
          generalize prsOk s = ob at *
          have h8 := bb_same ob
          go_wp2_with fail
          refine (HP1.out _).mono ?_
          rintro e w2 ⟨u, rfl, ho, hb2⟩
          have HB2 := Kp.mk (HB.out.trans (hb2.mono hszb))
          have RA := Kp.mk (rdd_own ho)
          obtain ⟨a2, c2, rfl⟩ := own_lenH ho
          clear ho hb2
          go_wp2_with fail
          refine (HP2.out _).mono ?_
          rintro e w3 ⟨u, rfl, ho, hb3⟩
          have HB3 := Kp.mk (HB2.out.trans (hb3.mono HB2.out.size))
          have RB := Kp.mk (rdd_own ho)
          have RA3 := Kp.mk (RA.out.below hb3)
          obtain ⟨a3, c3, rfl⟩ := own_lenH ho
          clear ho hb3
          go_wp2_with fail
          refine (text21_any _ l _ (HV.out.below HB3.out) HSM.out (by omega)).mono ?_
          rintro e w4 ⟨rfl, hb4⟩
          have HB4 := Kp.mk (HB3.out.trans (hb4.mono HB3.out.size))
          have RA4 := Kp.mk (RA3.out.below hb4)
          have RB4 := Kp.mk (RB.out.below hb4)
          clear hb4
          go_wp2_with fail
          refine (rtext21_any _ l _ (HV.out.below HB4.out) HSM.out (by omega)).mono ?_
          rintro e w5 ⟨rfl, hb5⟩
          have HB5 := Kp.mk (HB4.out.trans (hb5.mono HB4.out.size))
          have RA5 := Kp.mk (RA4.out.below hb5)
          have RB5 := Kp.mk (RB4.out.below hb5)
          clear hb5
          generalize txt l = tx at *
          generalize txOk l = tb at *
          have h9 := bb_same tb
          go_wp2_with fail
          refine (same21_any _ _ D _ RA5.out RB5.out (by omega)).mono ?_
          rintro e w6 ⟨rfl, hb6⟩
          have HB6 := Kp.mk (HB5.out.trans (hb6.mono HB5.out.size))
          clear hb6
          go_wp2_with fail
          refine (lives21_any _).mono ?_
          rintro e w9 ⟨rfl, hb9⟩
          have HB9 := Kp.mk (HB6.out.trans (hb9.mono HB6.out.size))
          clear hb9
          go_wp2_with fail
          go_ret
          exact ⟨rfl, HB9.out⟩
    · have q2 : (20 : Int) < (l.length : Int) := by omega
      go_wp2_with fail
      refine (lives21_any _).mono ?_
      rintro e w9 ⟨rfl, hb9⟩
      go_wp2_with fail
      go_ret
      exact ⟨rfl, hb9⟩
theorem cparses_arg (v0 v1 : Value) (w : World) (h0 : Arg Try.prog w 9 v0) (h1 : Arg Try.prog w 48 v1) :
    Calls Try.prog 10 #[v0, v1] w fun e w' => e = .returned (.bool true) ∧ Below w.heap.size w w' := by
  obtain ⟨x, rfl, hx⟩ := h0.str Try.underlying9
  obtain ⟨l, hv, hz⟩ := dlist_arg v1 w h1
  exact cparses_walk x v1 l w hx hv hz
end Go.Proofs.Ythlkflneldjnjaa
