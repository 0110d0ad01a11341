/- By whom a message came (layer 20): Text, the hops of fields, the example, the law ViaParses. -/
import Derived.Test.YtkfpioadimkogaaDoorVaf
import Derived.Test.YtkfpioadimkogaaDoorHdf
import Derived.Test.YtkfpioadimkogaaDoorLsh
import Derived.Test.YtkfpioadimkogaaDoorQs
namespace Go.Proofs.YtkfpioadimkogaaDoor
open Go.RowKit
set_option linter.unusedVariables false
set_option linter.unusedSimpArgs false

/-- P20.1: a hop's text. -/
def vaTx (V B C : ByteArray) : ByteArray := if C.size = 0 then V ++ ⟨#[32]⟩ ++ B else V ++ ⟨#[32]⟩ ++ B ++ ⟨#[32]⟩ ++ C
theorem vab1 (w : World) (o1 : Obj) : Below w.heap.size w (w.alloc o1) := (Below.refl _ _).alloc (Nat.le_refl _) _
set_option maxRecDepth 100000 in
set_option maxHeartbeats 1000000 in
theorem va_text_any (V B C : ByteArray) (w : World) (h1 : V.size ≤ 1000000) (h2 : B.size ≤ 1000000) (h3 : C.size ≤ 1000000) :
    Calls Tryd.prog 11 #[.agg #[.string V, .string B, .string C]] w fun e w' => e = .returned (.string (vaTx V B C)) ∧ Below w.heap.size w w' := by
  have HB := Kp.mk (vab1 w (.cells #[.string V, .string B, .string C] 26))
  by_cases h0 : 0 < C.size
  · obtain ⟨n1, n2⟩ := hs_nemp h0
    have HX := Kp.mk (show vaTx V B C = V ++ ⟨#[32]⟩ ++ B ++ ⟨#[32]⟩ ++ C from if_neg (by omega))
    go_enter Tryd.func11, Tryd.ntmps11
    go_wp2_with fail
    go_ret
    exact ⟨by rw [HX.out] <;> rfl, HB.out⟩
  · obtain rfl := hs_emp h0
    have HX := Kp.mk (show vaTx V B ⟨#[]⟩ = V ++ ⟨#[32]⟩ ++ B from if_pos rfl)
    clear h0 h3
    go_enter Tryd.func11, Tryd.ntmps11
    go_wp2_with fail
    go_ret
    exact ⟨by rw [HX.out] <;> rfl, HB.out⟩
/-! ### Hops -/
abbrev Hp := ByteArray × ByteArray × ByteArray
def hopC (d : Hp) : List Value := [.string d.1, .string d.2.1, .string d.2.2]
def hvH (l : List Hp) : List Value := l.flatMap hopC
theorem hvH_snoc (l : List Hp) (d : Hp) : hvH (l ++ [d]) = hvH l ++ [.string d.1, .string d.2.1, .string d.2.2] := by simp [hvH, hopC]
theorem Tryd.infoHop : (Tryd.prog.info? 26).map (fun i => (i.zero, i.size, i.bytes)) = some (some (.agg #[.string ByteArray.empty, .string ByteArray.empty, .string ByteArray.empty]), 3, 48) := by kernel_rfl
abbrev RdP (w : World) (v : Value) (l : List Hp) : Prop := RdL hopC 3 w v l
theorem rdp_own {w : World} {B : Nat} {v : Value} {l : List Hp} (h : w.ownsRow B 26 3 v l.length (hvH l)) : RdP w v l := RdL.of_own (f := hopC) (fun _ => rfl) h
theorem rdp_cells {w : World} {a : Option Addr} {c n : Nat} {l : List Hp} (h : RdP w (.slice a n c) l) (h0 : 0 < l.length) : ∃ b o, a = some ⟨b, o, none⟩ ∧ b < w.heap.size ∧ ∀ (j : Nat) (h : j < l.length), w.cell? ⟨b, o + j * 3, none⟩ = some (.string l[j].1) ∧ w.cell? ⟨b, o + j * 3 + 1, none⟩ = some (.string l[j].2.1) ∧ w.cell? ⟨b, o + j * 3 + 2, none⟩ = some (.string l[j].2.2) := by
  obtain ⟨a', c', h1, h2, h3, h4⟩ := h
  cases h1
  obtain ⟨b, o, g1, g2, g3⟩ := h4 h0
  exact ⟨b, o, g1, g2, fun j hj => ⟨by have := g3 j hj 0 (by omega); simpa [hopC] using this, by have := g3 j hj 1 (by omega); simpa [hopC] using this, by have := g3 j hj 2 (by omega); simpa [hopC] using this⟩⟩
set_option maxRecDepth 100000 in
set_option maxHeartbeats 1000000 in
theorem same20_any (v1 v2 : Value) (ps : List Hp) (w : World) (h1 : RdP w v1 ps) (h2 : RdP w v2 ps) (hl : ps.length ≤ 1000000) :
    Calls Tryd.prog 36 #[v1, v2] w fun e w' => e = .returned (.bool true) ∧ Below w.heap.size w w' := by
  have H1 := Kp.mk h1
  have H2 := Kp.mk h2
  obtain ⟨a1, c1, rfl, m1, -, -⟩ := h1
  obtain ⟨a2, c2, rfl, m2, -, -⟩ := h2
  go_enter Tryd.func36, Tryd.ntmps36
  go_wp2_with fail
  go_loopw [5] (fun i wr => ∃ k : Nat, k ≤ ps.length ∧ i = .int .i64 k ∧ ∃ m, wr = w.drewN m) (fun i _ => ps.length - (intOf i).toNat)
  case atStart => exact ⟨0, by omega, rfl, 0, rfl⟩
  case round =>
    obtain ⟨k, hk, rfl, m, rfl⟩ := hrel
    by_cases hlt : k < ps.length
    · obtain ⟨b1, o1, rfl, k1, d1⟩ := rdp_cells H1.out (by omega)
      obtain ⟨b2, o2, rfl, k2, d2⟩ := rdp_cells H2.out (by omega)
      obtain ⟨e1, e2, e5⟩ := d1 k hlt
      obtain ⟨e3, e4, e6⟩ := d2 k hlt
      have q0 : (0 : Int) ≤ (k : Int) := by omega
      have q1 : (k : Int) < (ps.length : Int) := by omega
      clear d1 d2
      generalize ps[k].1 = x1 at *
      generalize ps[k].2.1 = x2 at *
      generalize ps[k].2.2 = x3 at *
      go_wp2_with fail
      go_quiet (fail)
      go_wp2_with fail
      go_roundw
      case rel => exact ⟨k + 1, by omega, by go_num, _, rfl⟩
      case measure => simp [intOf] <;> omega
    · go_wp2_with fail
      go_ret
      exact ⟨rfl, gdrewN _ _⟩
def hopL (L : List ByteArray) (k : Nat) : List Hp := ((L.take k).filter fun x => decide (vaE x = 0)).map vaR
theorem hopL_yes {L : List ByteArray} {k : Nat} (h : k < L.length) (he : vaE L[k] = 0) : hopL L (k + 1) = hopL L k ++ [vaR L[k]] := by
  unfold hopL
  rw [List.take_succ_eq_append_getElem h, List.filter_append, List.map_append]
  simp [he]
theorem hopL_no {L : List ByteArray} {k : Nat} (h : k < L.length) (he : vaE L[k] ≠ 0) : hopL L (k + 1) = hopL L k := by
  unfold hopL
  rw [List.take_succ_eq_append_getElem h, List.filter_append, List.map_append]
  simp [he]
theorem hopL_len (L : List ByteArray) (k : Nat) : (hopL L k).length ≤ k := by
  unfold hopL
  rw [List.length_map]
  refine Nat.le_trans (List.length_filter_le _ _) ?_
  rw [List.length_take]; omega
def hops (L : List ByteArray) : List Hp := hopL L L.length
def RetHs (l : List Hp) (w : World) (e : Ending) (w' : World) : Prop := ∃ u, e = .returned u ∧ w'.ownsRow w.heap.size 26 3 u l.length (hvH l) ∧ Below w.heap.size w w'
set_option maxRecDepth 100000 in
set_option maxHeartbeats 4000000 in
theorem va_read_any (v : Value) (L : List ByteArray) (w : World) (hv : RdS w v L) (hz : ∀ x ∈ L, x.size ≤ 900000) (hl : L.length ≤ 1000000) : Calls Tryd.prog 57 #[v] w (RetHs (hops L) w) := by
  have HZ := Kp.mk hz
  have HR := Kp.mk hv
  have HX := Kp.mk (show hops L = hopL L L.length from rfl)
  obtain ⟨a, c, rfl, -, -, -⟩ := hv
  clear hz
  go_enter Tryd.func57, Tryd.ntmps57
  go_wp2_with fail
  go_loopw [3, 10] (fun ov i wr => ∃ k : Nat, k ≤ L.length ∧ i = .int .i64 k ∧ wr.ownsRow w.heap.size 26 3 ov (hopL L k).length (hvH (hopL L k)) ∧ Below w.heap.size w wr) (fun _ i _ => L.length - (intOf i).toNat)
  case atStart => exact ⟨0, by omega, rfl, World.ownsRow_nil _ _ _ _, Below.refl _ _⟩
  case round =>
    obtain ⟨k, hk, rfl, hown, hb⟩ := hrel
    obtain ⟨av, cv, rfl⟩ := own_lenH hown
    have HOW := Kp.mk hown
    have HB := Kp.mk hb
    have hle := hopL_len L k
    clear hown hb
    by_cases hlt : k < L.length
    · obtain ⟨g, o, rfl, hgl, d0⟩ := rds_cells (HR.out.below HB.out) (by omega)
      have c1 := d0 k hlt
      have m1 := HZ.out L[k] (List.getElem_mem hlt)
      have q0 : (0 : Int) ≤ (k : Int) := by omega
      have q1 : (k : Int) < (L.length : Int) := by omega
      have HYES := Kp.mk (fun h => hopL_yes (L := L) hlt h)
      have HNO := Kp.mk (fun h => hopL_no (L := L) hlt h)
      clear d0
      generalize L[k] = x at *
      have HP := Kp.mk (fun W => va_parse_any x W m1)
      unfold RetHp at HP
      generalize hR : vaR x = R at *
      obtain ⟨V, B, C⟩ := R
      unfold vaH at HP
      dsimp only at HP
      have HRX := Kp.mk hR
      clear hR
      generalize hopL L k = P at *
      have hlen : (P.length + 1) * 48 ≤ 140737488355328 := by omega
      have hmx : P.length + 1 ≤ maxLen := by unfold maxLen; omega
      go_wp2_with fail
      refine (HP.out _).mono ?_
      rintro e w4 ⟨rfl, hb4⟩
      have HB4 := Kp.mk (HB.out.trans (hb4.mono HB.out.size))
      have HO4 := Kp.mk ((own_bel HOW.out hb4).alloc (.cells #[.string V, .string B, .string C] 26))
      have hsz4 : w.heap.size ≤ w4.heap.size := HB4.out.size
      have hszX : w.heap.size ≤ (w4.alloc (.cells #[.string V, .string B, .string C] 26)).heap.size := by simp; omega
      have HBX := Kp.mk (HB4.out.alloc hsz4 (.cells #[.string V, .string B, .string C] 26))
      clear hb4 c1
      by_cases hE : vaE x = 0
      · have HY := Kp.mk (HYES.out hE)
        rw [hE]
        clear hE
        go_wp2_with (at_builtin; refine app_any rfl _ _ _ _ rfl Tryd.underlying40 _ _ _ Tryd.infoHop rfl (by omega) w.heap.size _ _ _ rfl HO4.out #[.string V, .string B, .string C] rfl (fun u hu => by simp at hu; rcases hu with rfl | rfl | rfl <;> rfl) (w4.heap.size + 1) (by simp) rfl hlen hmx hszX ?_; intro g9 cap9 w9 h1 h2 h3; have G3 := Kp.mk h1; have G4 := Kp.mk (grown_bel HO4.out hszX h2); clear h1 h2 h3)
        go_roundw
        case rel =>
          refine ⟨k + 1, by omega, by go_num, ?_, HBX.out.trans G4.out⟩
          rw [HY.out, List.length_append, hvH_snoc]
          exact G3.out
        case measure => simp [intOf]; omega
      · have HY := Kp.mk (HNO.out hE)
        have hE2 : (vaE x == 0) = false := beq_eq_false_iff_ne.2 hE
        generalize vaE x = E at *
        clear hE
        go_wp2_with fail
        go_roundw
        case rel =>
          refine ⟨k + 1, by omega, by go_num, ?_, HBX.out⟩
          rw [HY.out]
          exact HO4.out
        case measure => simp [intOf]; omega
    · obtain rfl : k = L.length := by omega
      go_wp2_with fail
      go_ret
      exact ⟨_, rfl, by rw [HX.out]; exact HOW.out, HB.out⟩
end Go.Proofs.YtkfpioadimkogaaDoor
