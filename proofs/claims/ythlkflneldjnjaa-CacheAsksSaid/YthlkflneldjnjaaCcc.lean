/- What is said to caches (layer 21): directives, as plain functions; Parse, the document's. -/
import Derived.Test.YthlkflneldjnjaaCcb
import Derived.Test.YthlkflneldjnjaaLsh
namespace Go.Proofs.Ythlkflneldjnjaa
open Go.RowKit
set_option linter.unusedVariables false
set_option linter.unusedSimpArgs false

/-- A directive: its name, its value, whether it has one. -/
abbrev Dir := ByteArray × ByteArray × Bool
def dirC (d : Dir) : List Value := [.string d.1, .string d.2.1, .bool d.2.2]
def dvH (l : List Dir) : List Value := l.flatMap dirC
theorem dvH_snoc (l : List Dir) (d : Dir) : dvH (l ++ [d]) = dvH l ++ [.string d.1, .string d.2.1, .bool d.2.2] := by simp [dvH, dirC]
theorem Try.infoDi : (Try.prog.info? 50).map (fun i => (i.zero, i.size, i.bytes)) = some (some (.agg #[.string ByteArray.empty, .string ByteArray.empty, .bool false]), 3, 40) := by kernel_rfl
abbrev RdD (w : World) (v : Value) (l : List Dir) : Prop := RdL dirC 3 w v l
theorem rdd_own {w : World} {B : Nat} {v : Value} {l : List Dir} (h : w.ownsRow B 50 3 v l.length (dvH l)) : RdD w v l := RdL.of_own (f := dirC) (fun _ => rfl) h
theorem rdd_cells {w : World} {a : Option Addr} {c n : Nat} {l : List Dir} (h : RdD w (.slice a n c) l) (h0 : 0 < l.length) : ∃ b o, a = some ⟨b, o, none⟩ ∧ b < w.heap.size ∧ ∀ (j : Nat) (h : j < l.length), w.cell? ⟨b, o + j * 3, none⟩ = some (.string l[j].1) ∧ w.cell? ⟨b, o + j * 3 + 1, none⟩ = some (.string l[j].2.1) ∧ w.cell? ⟨b, o + j * 3 + 2, none⟩ = some (.bool l[j].2.2) := by
  obtain ⟨a', c', h1, h2, h3, h4⟩ := h
  cases h1
  obtain ⟨b, o, g1, g2, g3⟩ := h4 h0
  exact ⟨b, o, g1, g2, fun j hj => ⟨by have := g3 j hj 0 (by omega); simpa [dirC] using this, by have := g3 j hj 1 (by omega); simpa [dirC] using this, by have := g3 j hj 2 (by omega); simpa [dirC] using this⟩⟩
def dirOf (s : ByteArray) : Dir := (nmD s, vlD s, setD s)
def prsOk (v : ByteArray) : Bool := splB v && (splL v).all okD
/-- P21.1: the directives that a text is. -/
def prs (v : ByteArray) : List Dir := if prsOk v = true then (splL v).map dirOf else []
def RetD (v : ByteArray) (w : World) (e : Ending) (w' : World) : Prop := ∃ u, e = .returned (.tuple #[u, .bool (prsOk v)]) ∧ w'.ownsRow w.heap.size 50 3 u (prs v).length (dvH (prs v)) ∧ Below w.heap.size w w'
def dirP (L : List ByteArray) (k : Nat) : List Dir := (L.take k).map dirOf
theorem dirP_step {L : List ByteArray} {k : Nat} (h : k < L.length) : dirP L (k + 1) = dirP L k ++ [dirOf L[k]] := by
  unfold dirP
  rw [List.take_succ_eq_append_getElem h, List.map_append]
  rfl
theorem dirP_len (L : List ByteArray) (k : Nat) : (dirP L k).length ≤ k := by unfold dirP; rw [List.length_map, List.length_take]; omega
def okU (L : List ByteArray) (k : Nat) : Prop := ∀ (j : Nat) (h : j < L.length), j < k → okD L[j] = true
theorem prs_hit {v : ByteArray} {k : Nat} (h : k < (splL v).length) (hf : okD (splL v)[k] = false) : prsOk v = false ∧ prs v = [] := by
  have h1 : prsOk v = false := by
    unfold prsOk
    rw [show (splL v).all okD = false from List.all_eq_false.2 ⟨_, List.getElem_mem h, by simp [hf]⟩]
    simp
  exact ⟨h1, by unfold prs; rw [h1]; rfl⟩
theorem prs_end {v : ByteArray} {k : Nat} (hk : (splL v).length ≤ k) (h : okU (splL v) k) : prsOk v = splB v ∧ prs v = dirP (splL v) k := by
  have ha : (splL v).all okD = true := List.all_eq_true.2 fun x hx => by
    obtain ⟨j, hj, rfl⟩ := List.getElem_of_mem hx
    exact h j hj (by omega)
  have h1 : prsOk v = splB v := by unfold prsOk; rw [ha]; simp
  refine ⟨h1, ?_⟩
  unfold prs dirP
  rw [h1, List.take_of_length_le hk]
  cases hb : splB v
  · have : splL v = [] := by unfold splL; rw [hb]; rfl
    rw [this]
    rfl
  · rfl
theorem prs_none {v : ByteArray} (h : splB v = false) : prsOk v = false ∧ prs v = [] := by
  have h1 : prsOk v = false := by unfold prsOk; rw [h]; rfl
  exact ⟨h1, by unfold prs; rw [h1]; rfl⟩
set_option maxRecDepth 100000 in
set_option maxHeartbeats 4000000 in
theorem rparse21_any (v : ByteArray) (w : World) (hvz : v.size ≤ 100000) : Calls Try.prog 40 #[.string v] w (RetD v w) := by
  have hln := splL_len v
  have HZ := Kp.mk (fun x (h : x ∈ splL v) => show x.size ≤ 100000 by have h1 := (splL_mem h).2; omega)
  have HHT := Kp.mk (fun (k : Nat) (h : k < (splL v).length) hf => prs_hit (v := v) h hf)
  have HEN := Kp.mk (fun (k : Nat) (h : (splL v).length ≤ k) hf => prs_end (v := v) h hf)
  go_enter Try.func40, Try.ntmps40
  go_wp2_with fail
  refine (rsplit_any v _ (by omega)).mono ?_
  rintro e w2 ⟨u, rfl, ho, hb2⟩
  have HB2 := Kp.mk hb2
  have HR := Kp.mk (rds_own ho)
  obtain ⟨a, c, rfl⟩ := own_lenH ho
  clear ho hb2
  generalize splL v = L at *
  generalize splB v = ob at *
  have HO0 := Kp.mk (World.ownsRow_lit (base := w2.heap.size) (e := 50) (size := 3) w2 #[] 0 (Nat.le_refl _) (by unfold maxLen; omega) rfl)
  have HB0 := Kp.mk ((Below.refl w2.heap.size w2).alloc (Nat.le_refl _) (.cells #[] 50))
  go_wp2_with fail
  go_loopw [6, 7] (fun ov i wr => ∃ k : Nat, k ≤ L.length ∧ i = .int .i64 k ∧ okU L k ∧ wr.ownsRow w2.heap.size 50 3 ov (dirP L k).length (dvH (dirP L k)) ∧ Below w2.heap.size w2 wr) (fun _ i _ => L.length - (intOf i).toNat)
  case atStart => exact ⟨0, by omega, rfl, fun j _ h => by omega, HO0.out, HB0.out⟩
  case round =>
    obtain ⟨k, hk, rfl, hok, hown, hb⟩ := hrel
    obtain ⟨av, cv, rfl⟩ := own_lenH hown
    have HOK := Kp.mk hok
    have HOW := Kp.mk hown
    have HB := Kp.mk hb
    have HBW := Kp.mk (HB2.out.trans (hb.mono HB2.out.size))
    have hle := dirP_len L k
    clear hok hown hb
    by_cases hlt : k < L.length
    · obtain ⟨g, o, rfl, hgl, d0⟩ := rds_cells (HR.out.below HB.out) (by omega)
      have c1 := d0 k hlt
      have m1 := HZ.out L[k] (List.getElem_mem hlt)
      have q0 : (0 : Int) ≤ (k : Int) := by omega
      have q1 : (k : Int) < (L.length : Int) := by omega
      have HST := Kp.mk (dirP_step hlt)
      have HHit := Kp.mk (HHT.out k hlt)
      have HN := Kp.mk (fun (ht : okD L[k] = true) => show okU L (k + 1) from fun j hj h => by
        by_cases hjk : j = k
        · subst hjk; exact ht
        · exact HOK.out j hj (by omega))
      clear d0
      generalize L[k] = x at *
      have HP := Kp.mk (fun W => rone21_any x W (by omega))
      unfold OnePostD at HP
      have HDO := Kp.mk (show dirOf x = (nmD x, vlD x, setD x) from rfl)
      generalize dirP L k = P at *
      have hlen : (P.length + 1) * 40 ≤ 140737488355328 := by omega
      have hmx : P.length + 1 ≤ maxLen := by unfold maxLen; omega
      go_wp2_with fail
      refine (HP.out _).mono ?_
      rintro e w4 ⟨nm, vl, st, rfl, hval, hb4⟩
      have HVA := Kp.mk hval
      have HB4 := Kp.mk (HB.out.trans (hb4.mono HB.out.size))
      have HB4W := Kp.mk (HBW.out.trans (hb4.mono HBW.out.size))
      have HO4 := Kp.mk ((own_bel HOW.out hb4).alloc (.cells #[.string nm, .string vl, .bool st] 50))
      have hsz4 : w2.heap.size ≤ w4.heap.size := HB4.out.size
      have hszX : w2.heap.size ≤ (w4.alloc (.cells #[.string nm, .string vl, .bool st] 50)).heap.size := by simp; omega
      have HBX := Kp.mk (HB4.out.alloc hsz4 (.cells #[.string nm, .string vl, .bool st] 50))
      have HBXW := Kp.mk (HB4W.out.alloc HB4W.out.size (.cells #[.string nm, .string vl, .bool st] 50))
      clear hval hb4 c1
      cases hod : okD x
      · obtain ⟨e1, e2⟩ := HHit.out hod
        have E1 := Kp.mk e1
        have E2 := Kp.mk e2
        clear e1 e2
        go_wp2_with fail
        go_ret2
        exact ⟨.slice none 0 0, by rw [E1.out]; rfl, by rw [E2.out]; exact World.ownsRow_nil _ _ _ _, HBXW.out⟩
      · obtain ⟨y1, y2, y3⟩ := HVA.out hod
        have HY := Kp.mk (show dirOf x = (nm, vl, st) by rw [HDO.out, y1, y2, y3])
        have HN2 := Kp.mk (HN.out hod)
        clear y1 y2 y3
        go_wp2_with (at_builtin; refine app_any rfl _ _ _ _ rfl Try.underlying48 _ _ _ Try.infoDi rfl (by omega) w2.heap.size _ _ _ rfl HO4.out #[.string nm, .string vl, .bool st] rfl (fun u hu => by simp at hu; rcases hu with rfl | rfl | rfl <;> rfl) (w4.heap.size + 1) (by simp) rfl hlen hmx hszX ?_; intro g9 cap9 w9 h1 h2 h3; have G3 := Kp.mk h1; have G4 := Kp.mk (grown_bel HO4.out hszX h2); clear h1 h2 h3)
        go_roundw
        case rel =>
          refine ⟨k + 1, by omega, by go_num, HN2.out, ?_, HBX.out.trans G4.out⟩
          rw [HST.out, List.length_append, dvH_snoc, HY.out]
          exact G3.out
        case measure => simp [intOf]; omega
    · obtain ⟨e1, e2⟩ := HEN.out k (by omega) HOK.out
      have E1 := Kp.mk e1
      have E2 := Kp.mk e2
      clear e1 e2
      go_wp2_with fail
      go_ret2
      refine ⟨.slice av (dirP L k).length cv, by rw [E1.out]; rfl, ?_, HBW.out⟩
      rw [E2.out]
      exact own_low HOW.out HB2.out.size
end Go.Proofs.Ythlkflneldjnjaa
