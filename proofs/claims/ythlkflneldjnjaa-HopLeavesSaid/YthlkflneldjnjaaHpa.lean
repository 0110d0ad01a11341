/- Fields of one connection (layer 29): which names are taken out; plain functions, closures. -/
import Derived.Test.YthlkflneldjnjaaCne
import Derived.Maps.AppendAt
namespace Go.Proofs.Ythlkflneldjnjaa
open Go.RowKit
set_option linter.unusedVariables false
set_option linter.unusedSimpArgs false

def hopOwn : List ByteArray := [⟨#[67, 111, 110, 110, 101, 99, 116, 105, 111, 110]⟩, ⟨#[75, 101, 101, 112, 45, 65, 108, 105, 118, 101]⟩, ⟨#[80, 114, 111, 120, 121, 45, 67, 111, 110, 110, 101, 99, 116, 105, 111, 110]⟩, ⟨#[84, 69]⟩, ⟨#[84, 114, 97, 105, 108, 101, 114]⟩, ⟨#[84, 114, 97, 110, 115, 102, 101, 114, 45, 69, 110, 99, 111, 100, 105, 110, 103]⟩, ⟨#[85, 112, 103, 114, 97, 100, 101]⟩]
def hopNo : List ByteArray := [⟨#[72, 111, 115, 116]⟩, ⟨#[67, 111, 110, 116, 101, 110, 116, 45, 76, 101, 110, 103, 116, 104]⟩, ⟨#[86, 105, 97]⟩]
/-- May nobody take fields of that name out? -/
def noH (x : ByteArray) : Bool := hopNo.any fun n => foldB n x
def hopT (W : List ByteArray) (k : Nat) : List ByteArray := hopOwn ++ (W.take k).filter fun x => !noH x
/-- P29.1. -/
def hopN (v : ByteArray) : List ByteArray := hopOwn ++ (conW v).filter fun x => !noH x
theorem hopT_zero (W : List ByteArray) : hopT W 0 = hopOwn := by simp [hopT]
theorem hopT_step {W : List ByteArray} {k : Nat} (h : k < W.length) : hopT W (k + 1) = hopT W k ++ (if noH W[k] = true then [] else [W[k]]) := by
  unfold hopT
  rw [List.take_succ_eq_append_getElem h, List.filter_append, List.append_assoc]
  congr 2
  cases hf : noH W[k] <;> simp [hf]
theorem hopT_len (W : List ByteArray) (k : Nat) : (hopT W k).length ≤ 7 + W.length := by
  unfold hopT
  have h1 := List.length_filter_le (fun x : ByteArray => !noH x) (W.take k)
  have h2 : (W.take k).length ≤ W.length := by rw [List.length_take]; omega
  rw [List.length_append]
  show 7 + _ ≤ _
  omega
def tHasN (x : ByteArray) (ns : List ByteArray) : Bool := ns.any fun n => foldB n x
theorem tHasN_take {x : ByteArray} {ns : List ByteArray} {k : Nat} (h : k < ns.length) : tHasN x (ns.take (k + 1)) = (tHasN x (ns.take k) || foldB ns[k] x) := by
  unfold tHasN
  rw [List.take_succ_eq_append_getElem h, List.any_append]
  simp
theorem tHasN_hit {x : ByteArray} {ns : List ByteArray} {k : Nat} (h : k < ns.length) (hf : foldB ns[k] x = true) : tHasN x ns = true := List.any_eq_true.2 ⟨_, List.getElem_mem h, hf⟩
theorem hp1_any (n x : ByteArray) (bx : Nat) (w : World) (hc : w.cell? ⟨bx, 0, none⟩ = some (.string x)) (hn : n.size ≤ 100000) (hx : x.size ≤ 100000) :
    Calls Try.prog 77 #[.string n, .pointer (some ⟨bx, 0, none⟩)] w fun e w' => e = .returned (.bool (foldB n x)) ∧ Below w.heap.size w w' := by
  go_enter Try.func77, Try.ntmps77
  go_wp2_with fail
  refine (oct_fold_any _ _ _ (by omega) (by omega)).mono ?_
  rintro e w1 ⟨rfl, hb⟩
  go_wp2_with fail
  go_ret
  exact ⟨rfl, hb⟩
set_option maxRecDepth 100000 in
set_option maxHeartbeats 2000000 in
theorem hix_any (v : Value) (ns : List ByteArray) (x : ByteArray) (bx : Nat) (w : World) (hv : RdS w v ns) (hc : w.cell? ⟨bx, 0, none⟩ = some (.string x)) (hbx : bx < w.heap.size) (hz : ∀ n ∈ ns, n.size ≤ 100000) (hx : x.size ≤ 100000) (hl : ns.length ≤ 1000000) :
    Calls Try.prog 91 #[v, .func (.func 77) #[] #[.pointer (some ⟨bx, 0, none⟩)]] w (CIdx (tHasN x ns) w) := by
  have HV := Kp.mk hv
  have HZ := Kp.mk hz
  have HC := Kp.mk hc
  obtain ⟨a, cap, rfl, hc1, hc2, -⟩ := hv
  clear hz hc hc2
  go_enter Try.func91, Try.ntmps91
  go_wp2_with fail
  go_loopw [8] (fun i wr => ∃ k : Nat, k ≤ ns.length ∧ i = .int .i64 k ∧ tHasN x (ns.take k) = false ∧ Below w.heap.size w wr) (fun i _ => ns.length - (intOf i).toNat)
  case atStart => exact ⟨0, by omega, rfl, rfl, Below.refl _ _⟩
  case round =>
    obtain ⟨k, hk, rfl, hh, hb⟩ := hrel
    have HB := Kp.mk hb
    have HH := Kp.mk hh
    have HCK := Kp.mk ((hb.cell (p := ⟨bx, 0, none⟩) hbx).trans HC.out)
    have hsz := hb.size
    clear hh hb
    by_cases hlt : k < ns.length
    · obtain ⟨g, o, rfl, hgl, d0⟩ := rds_cells (HV.out.below HB.out) (by omega)
      have c1 := d0 k hlt
      have m1 := HZ.out ns[k] (List.getElem_mem hlt)
      have q0 : (0 : Int) ≤ (k : Int) := by omega
      have q1 : (k : Int) < (ns.length : Int) := by omega
      have HT := Kp.mk (tHasN_take (x := x) hlt)
      have HHit := Kp.mk (tHasN_hit (x := x) hlt)
      clear d0
      generalize ns[k] = n at *
      go_wp2_with fail
      refine (hp1_any n x bx _ HCK.out m1 hx).mono ?_
      rintro e w2 ⟨rfl, hb2⟩
      have HB2 := Kp.mk (HB.out.trans (hb2.mono hsz))
      clear hb2
      cases hf : foldB n x
      · have HT2 := Kp.mk (show tHasN x (ns.take (k + 1)) = false by rw [HT.out, hf, HH.out]; rfl)
        go_wp2_with fail
        go_roundw
        case rel => exact ⟨k + 1, by omega, by go_num, HT2.out, HB2.out⟩
        case measure => simp [intOf]; omega
      · have HT2 := Kp.mk (HHit.out hf)
        go_wp2_with fail
        go_ret
        exact ⟨_, rfl, by rw [HT2.out]; exact decide_eq_true (by omega), HB2.out⟩
    · have HK := Kp.mk (show tHasN x ns = false by have := HH.out; rwa [List.take_of_length_le (by omega)] at this)
      go_wp2_with fail
      go_ret
      exact ⟨-1, rfl, by rw [HK.out]; rfl, HB.out⟩
theorem hcof_any (v : Value) (ns : List ByteArray) (x : ByteArray) (bx : Nat) (w : World) (hv : RdS w v ns) (hc : w.cell? ⟨bx, 0, none⟩ = some (.string x)) (hbx : bx < w.heap.size) (hz : ∀ n ∈ ns, n.size ≤ 100000) (hx : x.size ≤ 100000) (hl : ns.length ≤ 1000000) :
    Calls Try.prog 54 #[v, .func (.func 77) #[] #[.pointer (some ⟨bx, 0, none⟩)]] w fun e w' => e = .returned (.bool (tHasN x ns)) ∧ Below w.heap.size w w' := by
  have HC := Kp.mk hc
  have HV := Kp.mk hv
  have HZ := Kp.mk hz
  clear hc hv hz
  go_enter Try.func54, Try.ntmps54
  go_wp2_with fail
  refine (hix_any v ns x bx _ HV.out HC.out hbx HZ.out hx hl).mono ?_
  rintro e w1 ⟨r, rfl, hr, hb⟩
  have HR := Kp.mk hr
  clear hr
  go_wp2_with fail
  go_ret
  exact ⟨by rw [← HR.out]; rfl, hb⟩
theorem svH_one (l : List ByteArray) : ∀ u ∈ svH l, u.oneCell' = true := by
  rw [svH_map]
  intro u hu
  rw [List.mem_map] at hu
  obtain ⟨s, _, rfl⟩ := hu
  rfl
/-- Texts appended behind a row of the call's own. -/
theorem app_strs {P : Program} {wr : World} {ops : Array Oper} {rest : List Oper} {o : Oper} {a : Act} {Q : Exit → Act → World → Prop} (hgd : o.guard = none) (s x : Operand) (t e : TypeId)
    (ho : o.op = .call { callee := .builtin .append, args := #[s, x], argTypes := #[t, t] }) (ht : P.underlying t = some (.slice e)) (z : Value)
    (hi : (P.info? e).map (fun i => (i.zero, i.size, i.bytes)) = some (some z, 1, 16)) (hz : z.cells.size = 1) (B : Nat) (v : Value) (n : Nat) (xs : List Value) (hs : a.eval s = v) (hown : wr.ownsRow B e 1 v n xs)
    (g off c : Nat) (l : List ByteArray) (hx : a.eval x = .slice (some ⟨g, off, none⟩) l.length c) (hc : ∀ (j : Nat) (h : j < l.length), wr.cell? ⟨g, off + j, none⟩ = some (.string l[j])) (hlen : (n + l.length) * 16 ≤ 140737488355328) (hm : n + l.length ≤ maxLen) (hB : B ≤ wr.heap.size)
    (h : ∀ v' w', w'.ownsRow B e 1 v' (n + l.length) (xs ++ svH l) → wr.grownBy w' v.ownBlock → wpList P ops Q rest (a.put o.dst v') w') :
    wpList P ops Q (o :: rest) a wr := by
  obtain ⟨i0, hi, hz0, hz1, hz2⟩ := info_parts hi
  refine wpList_append_own_at _ hgd s x t ho B e i0 z 1 16 ht hi hz0 hz1 hz2 hz (by omega) v n xs hs hown ⟨g, off, none⟩ l.length c (svH l) hx (by rw [svH_map, List.length_map]; omega) ?_ (svH_one l) hm hlen hB fun v' w' g1 g2 _ _ => h v' w' g1 g2
  intro j u hj
  rw [svH_map, List.getElem?_map] at hj
  rw [Addr.add_lit]
  by_cases hjl : j < l.length
  · rw [List.getElem?_eq_getElem hjl] at hj
    cases hj
    exact hc j hjl
  · rw [List.getElem?_eq_none (by omega)] at hj
    cases hj
set_option maxRecDepth 100000 in
set_option maxHeartbeats 1000000 in
theorem clones_any (g off c : Nat) (l : List ByteArray) (w : World) (hg : g < w.heap.size) (hc : ∀ (j : Nat) (h : j < l.length), w.cell? ⟨g, off + j, none⟩ = some (.string l[j])) (hl : l.length ≤ 10000) :
    Calls Try.prog 76 #[.slice (some ⟨g, off, none⟩) l.length c] w (RetS l w) := by
  have hBA := (Below.refl w.heap.size w).alloc (Nat.le_refl _) (.cells #[] 9)
  have HO := Kp.mk (World.ownsRow_lit (base := w.heap.size) (e := 9) (size := 1) w #[] 0 (Nat.le_refl _) (by unfold maxLen; omega) rfl)
  have HC := Kp.mk (fun (j : Nat) (h : j < l.length) => (hBA.cell (p := ⟨g, off + j, none⟩) hg).trans (hc j h))
  have HBA := Kp.mk hBA
  have hszA : w.heap.size ≤ (w.alloc (.cells #[] 9)).heap.size := hBA.size
  have hlen0 : (0 + l.length) * 16 ≤ 140737488355328 := by omega
  have hmx0 : 0 + l.length ≤ maxLen := by unfold maxLen; omega
  have hE : ∀ w : World, (binOp .eql 25 (.slice (some ⟨g, off, none⟩) l.length c) (.slice none 0 0)).run Try.prog w = .ok (.bool false) w := fun w => by kernel_rfl
  clear hBA hc
  go_enter Try.func76, Try.ntmps76
  go_wp2_with (at_builtin; refine app_strs rfl _ _ _ _ rfl Try.underlying25 _ Try.infoSH rfl w.heap.size _ 0 _ rfl HO.out _ _ _ l rfl HC.out hlen0 hmx0 hszA ?_; intro v1 w1 h1 h2; rw [Nat.zero_add] at h1; have HB1 := Kp.mk (HBA.out.grown h2 hszA fun k hk => (HO.out.lt k hk).1); have HO1 := Kp.mk h1; clear h1 h2)
  go_ret
  exact ⟨_, rfl, HO1.out, HB1.out⟩
end Go.Proofs.Ythlkflneldjnjaa
