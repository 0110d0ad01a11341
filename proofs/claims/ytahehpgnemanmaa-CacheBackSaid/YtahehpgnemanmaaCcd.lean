/- What is said to caches (layer 21): Parse, the program's. -/
import Derived.Test.YtahehpgnemanmaaCca
import Derived.Test.YtahehpgnemanmaaCcx
import Derived.Test.YtahehpgnemanmaaCcy
import Derived.Test.YtahehpgnemanmaaCcc
namespace Go.Proofs.Ytahehpgnemanmaa
open Go.RowKit
set_option linter.unusedVariables false
set_option linter.unusedSimpArgs false

theorem one21_any (s : ByteArray) (w : World) (hs : s.size ≤ 1000000) :
    Calls Try.prog 55 #[.string s] w fun e w' => e = .returned (.tuple #[.agg #[.string (nmD s), .string (vlD s), .bool (setD s)], .bool (okD s)]) ∧ Below w.heap.size w w' := by
  by_cases hset : dN s < s.size ∧ bt s (dN s) = 61
  · by_cases hk : dK s = 0
    · exact one21_quo s w hs hset hk
    · exact one21_tok s w hs hset hk
  · exact one21_no s w hs hset
theorem pone21_any (s : ByteArray) (w : World) (hs : s.size ≤ 1000000) : Calls Try.prog 55 #[.string s] w (OnePostD s w) := by
  refine (one21_any s w hs).mono ?_
  rintro e w' ⟨rfl, hb⟩
  exact ⟨nmD s, vlD s, setD s, rfl, fun _ => ⟨rfl, rfl, rfl⟩, hb⟩
set_option maxRecDepth 100000 in
set_option maxHeartbeats 4000000 in
theorem parse21_in (v : ByteArray) (w : World) (hvz : v.size ≤ 100000000) (hz : ∀ x ∈ splL v, x.size ≤ 100000) : Calls Try.prog 29 #[.string v] w (RetD v w) := by
  have hln := splL_len v
  have HZ := Kp.mk hz
  clear hz
  have HHT := Kp.mk (fun (k : Nat) (h : k < (splL v).length) hf => prs_hit (v := v) h hf)
  have HEN := Kp.mk (fun (k : Nat) (h : (splL v).length ≤ k) hf => prs_end (v := v) h hf)
  go_enter Try.func29, Try.ntmps29
  go_wp2_with fail
  refine (split_any v _ (by omega)).mono ?_
  rintro e w2 ⟨u, rfl, ho, hb2⟩
  have HB2 := Kp.mk hb2
  have HR := Kp.mk (rds_own ho)
  obtain ⟨a, c, rfl⟩ := own_lenH ho
  clear ho hb2
  cases hob : splB v
  · obtain ⟨e1, e2⟩ := prs_none hob
    have E1 := Kp.mk e1
    have E2 := Kp.mk e2
    clear e1 e2
    go_wp2_with fail
    go_ret2
    exact ⟨.slice none 0 0, by rw [E1.out]; rfl, by rw [E2.out]; exact World.ownsRow_nil _ _ _ _, HB2.out⟩
  rw [hob] at HEN
  clear hob
  generalize splL v = L at *
  go_wp2_with fail
  go_loopw [6, 20] (fun ov i wr => ∃ k : Nat, k ≤ L.length ∧ i = .int .i64 k ∧ okU L k ∧ wr.ownsRow w2.heap.size 74 3 ov (dirP L k).length (dvH (dirP L k)) ∧ Below w2.heap.size w2 wr) (fun _ i _ => L.length - (intOf i).toNat)
  case atStart => exact ⟨0, by omega, rfl, fun j _ h => by omega, World.ownsRow_nil _ _ _ _, Below.refl _ _⟩
  case round =>
    obtain ⟨k, hk, rfl, hok, hown, hb⟩ := hrel
    obtain ⟨av, cv, rfl⟩ := own_lenH hown
    have HOK := Kp.mk hok
    have HOW := Kp.mk hown
    have HB := Kp.mk hb
    have HBW := Kp.mk (HB2.out.trans (hb.mono HB2.out.size))
    have hle := dirP_len L k
    clear hok hown hb
    by_cases hlt : k < L.length
    · obtain ⟨g, o, rfl, hgl, d0⟩ := rds_cells (HR.out.below HB.out) (by omega)
      have c1 := d0 k hlt
      have m1 := HZ.out L[k] (List.getElem_mem hlt)
      have q0 : (0 : Int) ≤ (k : Int) := by omega
      have q1 : (k : Int) < (L.length : Int) := by omega
      have HST := Kp.mk (dirP_step hlt)
      have HHit := Kp.mk (HHT.out k hlt)
      have HN := Kp.mk (fun (ht : okD L[k] = true) => show okU L (k + 1) from fun j hj h => by
        by_cases hjk : j = k
        · subst hjk; exact ht
        · exact HOK.out j hj (by omega))
      clear d0
      generalize L[k] = x at *
      have HP := Kp.mk (fun W => pone21_any x W (by omega))
      unfold OnePostD at HP
      have HDO := Kp.mk (show dirOf x = (nmD x, vlD x, setD x) from rfl)
      generalize dirP L k = P at *
      have hlen : (P.length + 1) * 40 ≤ 140737488355328 := by omega
      have hmx : P.length + 1 ≤ maxLen := by unfold maxLen; omega
      go_wp2_with fail
      refine (HP.out _).mono ?_
      rintro e w4 ⟨nm, vl, st, rfl, hval, hb4⟩
      have HVA := Kp.mk hval
      have HB4 := Kp.mk (HB.out.trans (hb4.mono HB.out.size))
      have HB4W := Kp.mk (HBW.out.trans (hb4.mono HBW.out.size))
      have HO4 := Kp.mk ((own_bel HOW.out hb4).alloc (.cells #[.string nm, .string vl, .bool st] 74))
      have hsz4 : w2.heap.size ≤ w4.heap.size := HB4.out.size
      have hszX : w2.heap.size ≤ (w4.alloc (.cells #[.string nm, .string vl, .bool st] 74)).heap.size := by simp; omega
      have HBX := Kp.mk (HB4.out.alloc hsz4 (.cells #[.string nm, .string vl, .bool st] 74))
      have HBXW := Kp.mk (HB4W.out.alloc HB4W.out.size (.cells #[.string nm, .string vl, .bool st] 74))
      clear hval hb4 c1
      cases hod : okD x
      · obtain ⟨e1, e2⟩ := HHit.out hod
        have E1 := Kp.mk e1
        have E2 := Kp.mk e2
        clear e1 e2
        go_wp2_with fail
        go_ret2
        exact ⟨.slice none 0 0, by rw [E1.out]; rfl, by rw [E2.out]; exact World.ownsRow_nil _ _ _ _, HBXW.out⟩
      · obtain ⟨y1, y2, y3⟩ := HVA.out hod
        have HY := Kp.mk (show dirOf x = (nm, vl, st) by rw [HDO.out, y1, y2, y3])
        have HN2 := Kp.mk (HN.out hod)
        clear y1 y2 y3
        go_wp2_with (at_builtin; refine app_any rfl _ _ _ _ rfl Try.underlying46 _ _ _ Try.infoDi rfl (by omega) w2.heap.size _ _ _ rfl HO4.out #[.string nm, .string vl, .bool st] rfl (fun u hu => by simp at hu; rcases hu with rfl | rfl | rfl <;> rfl) (w4.heap.size + 1) (by simp) rfl hlen hmx hszX ?_; intro g9 cap9 w9 h1 h2 h3; have G3 := Kp.mk h1; have G4 := Kp.mk (grown_bel HO4.out hszX h2); clear h1 h2 h3)
        go_roundw
        case rel =>
          refine ⟨k + 1, by omega, by go_num, HN2.out, ?_, HBX.out.trans G4.out⟩
          rw [HST.out, List.length_append, dvH_snoc, HY.out]
          exact G3.out
        case measure => simp [intOf]; omega
    · obtain ⟨e1, e2⟩ := HEN.out k (by omega) HOK.out
      have E1 := Kp.mk e1
      have E2 := Kp.mk e2
      clear e1 e2
      go_wp2_with fail
      go_ret2
      refine ⟨.slice av (dirP L k).length cv, by rw [E1.out]; rfl, ?_, HBW.out⟩
      rw [E2.out]
      exact own_low HOW.out HB2.out.size
theorem parse21_any (v : ByteArray) (w : World) (hvz : v.size ≤ 100000) : Calls Try.prog 29 #[.string v] w (RetD v w) :=
  parse21_in v w (by omega) fun x h => by have h1 := (splL_mem h).2; omega
end Go.Proofs.Ytahehpgnemanmaa
