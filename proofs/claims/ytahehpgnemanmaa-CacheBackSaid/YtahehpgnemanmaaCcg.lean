/- What is said to caches (layer 21): the text of directives, as plain functions; the document's Text. · What is said to caches (layer 21): Text, the program's. -/
import Derived.Test.YtahehpgnemanmaaCcc
import Derived.Test.YtahehpgnemanmaaHdf
namespace Go.Proofs.Ytahehpgnemanmaa
open Go.RowKit
set_option linter.unusedVariables false
set_option linter.unusedSimpArgs false

def dtOk (d : Dir) : Bool := quoteOk d.2.1 && (tokenB d.1 && (d.2.2 || decide (d.2.1.size = 0)))
def dtT (d : Dir) : ByteArray := if d.2.2 = true then d.1 ++ ⟨#[61]⟩ ++ quoteS d.2.1 else d.1
def txOk (l : List Dir) : Bool := l.all dtOk
/-- P21.1: their text. -/
def txt (l : List Dir) : ByteArray := if txOk l = true then hJoin (l.map dtT) else ⟨#[]⟩
def DirSm (d : Dir) : Prop := d.1.size ≤ 1000 ∧ d.2.1.size ≤ 1000
def txP (l : List Dir) (k : Nat) : List ByteArray := (l.take k).map dtT
theorem txP_step {l : List Dir} {k : Nat} (h : k < l.length) : txP l (k + 1) = txP l k ++ [dtT l[k]] := by
  unfold txP
  rw [List.take_succ_eq_append_getElem h, List.map_append]
  rfl
theorem txP_len (l : List Dir) (k : Nat) : (txP l k).length ≤ k := by unfold txP; rw [List.length_map, List.length_take]; omega
def okT2 (l : List Dir) (k : Nat) : Prop := ∀ (j : Nat) (h : j < l.length), j < k → dtOk l[j] = true
theorem tx_hit {l : List Dir} {k : Nat} (h : k < l.length) (hf : dtOk l[k] = false) : txOk l = false ∧ txt l = ⟨#[]⟩ := by
  have h1 : txOk l = false := List.all_eq_false.2 ⟨_, List.getElem_mem h, by simp [hf]⟩
  exact ⟨h1, by unfold txt; rw [h1]; rfl⟩
theorem tx_end {l : List Dir} {k : Nat} (hk : l.length ≤ k) (h : okT2 l k) : txOk l = true ∧ txt l = hJoin (txP l k) := by
  have h1 : txOk l = true := List.all_eq_true.2 fun x hx => by
    obtain ⟨j, hj, rfl⟩ := List.getElem_of_mem hx
    exact h j hj (by omega)
  exact ⟨h1, by unfold txt txP; rw [h1, List.take_of_length_le hk]; rfl⟩
theorem dtT_size {d : Dir} (h : DirSm d) : (dtT d).size ≤ 10000 := by
  have h2 := quoteS_len d.2.1
  obtain ⟨h3, h4⟩ := h
  unfold dtT
  split
  · rw [ByteArray.size_append, ByteArray.size_append]
    have : (⟨#[61]⟩ : ByteArray).size = 1 := rfl
    omega
  · omega
theorem txP_sm {l : List Dir} (h : ∀ d ∈ l, DirSm d) (k : Nat) : ∀ s ∈ txP l k, s.size ≤ 100000 := fun s hs => by
  unfold txP at hs
  obtain ⟨d, hd, rfl⟩ := List.mem_map.1 hs
  have := dtT_size (h d (List.mem_of_mem_take hd))
  omega
theorem dtOk_of (x y : ByteArray) (b : Bool) : dtOk (x, y, b) = (quoteOk y && (tokenB x && (b || decide (y.size = 0)))) := rfl
end Go.Proofs.Ytahehpgnemanmaa
namespace Go.Proofs.Ytahehpgnemanmaa
open Go.RowKit
set_option linter.unusedVariables false
set_option linter.unusedSimpArgs false

set_option maxRecDepth 100000 in
set_option maxHeartbeats 4000000 in
theorem text21_any (v : Value) (l : List Dir) (w : World) (hv : RdD w v l) (hz : ∀ d ∈ l, DirSm d) (hl : l.length ≤ 2000) :
    Calls Try.prog 31 #[v] w fun e w' => e = .returned (.tuple #[.string (txt l), .bool (txOk l)]) ∧ Below w.heap.size w w' := by
  have HV := Kp.mk hv
  have HZ := Kp.mk hz
  have HSM := Kp.mk (txP_sm hz)
  have HHT := Kp.mk (fun (k : Nat) (h : k < l.length) hf => tx_hit (l := l) h hf)
  have HEN := Kp.mk (fun (k : Nat) (h : l.length ≤ k) hf => tx_end (l := l) h hf)
  obtain ⟨a, cap, rfl, hc1, hc2, -⟩ := hv
  clear hz hc2
  go_enter Try.func31, Try.ntmps31
  go_wp2_with fail
  go_loopw [4, 11] (fun ov i wr => ∃ k : Nat, k ≤ l.length ∧ i = .int .i64 k ∧ okT2 l k ∧ wr.ownsRow w.heap.size 9 1 ov (txP l k).length (svH (txP l k)) ∧ Below w.heap.size w wr) (fun _ i _ => l.length - (intOf i).toNat)
  case atStart => exact ⟨0, by omega, rfl, fun j _ h => by omega, World.ownsRow_nil _ _ _ _, Below.refl _ _⟩
  case round =>
    obtain ⟨k, hk, rfl, hok, hown, hb⟩ := hrel
    obtain ⟨av, cv, rfl⟩ := own_lenH hown
    have HOK := Kp.mk hok
    have HO := Kp.mk hown
    have HB := Kp.mk hb
    have hsz := hb.size
    have hle := txP_len l k
    clear hok hown hb
    by_cases hlt : k < l.length
    · obtain ⟨g, o, rfl, hgl, d0⟩ := rdd_cells (HV.out.below HB.out) (by omega)
      obtain ⟨c1, c2, c3⟩ := d0 k hlt
      obtain ⟨m1, m2⟩ := HZ.out l[k] (List.getElem_mem hlt)
      have q0 : (0 : Int) ≤ (k : Int) := by omega
      have q1 : (k : Int) < (l.length : Int) := by omega
      have HST := Kp.mk (txP_step hlt)
      have HHit := Kp.mk (HHT.out k hlt)
      have HN := Kp.mk (fun (ht : dtOk l[k] = true) => show okT2 l (k + 1) from fun j hj h => by
        by_cases hjk : j = k
        · subst hjk; exact ht
        · exact HOK.out j hj (by omega))
      clear d0
      generalize l[k] = d at *
      obtain ⟨x, y, b⟩ := d
      dsimp only at c1 c2 c3 m1 m2
      have HDO := Kp.mk (dtOk_of x y b)
      have hqs := quoteS_len y
      have HQE := Kp.mk (emp_iff y)
      generalize txP l k = P at *
      have hlen : (P.length + 1) * 16 ≤ 140737488355328 := by omega
      have hmx : P.length + 1 ≤ maxLen := by unfold maxLen; omega
      generalize hdo : dtOk (x, y, b) = dob at *
      clear hdo
      have HDA := Kp.mk (Bl.new wr 74 #[.string x, .string y, .bool b])
      have HOA := Kp.mk (HO.out.alloc (.cells #[.string x, .string y, .bool b] 74))
      have HBA := Kp.mk (HB.out.alloc hsz (.cells #[.string x, .string y, .bool b] 74))
      go_wp2_with fail
      refine (cur_quote y _ (by omega)).mono ?_
      rintro e w2 ⟨rfl, hb2⟩
      have HD2 := Kp.mk (HDA.out.below hb2)
      have HO2 := Kp.mk (own_bel HOA.out hb2)
      have HB2 := Kp.mk (HBA.out.trans (hb2.mono HBA.out.size))
      obtain ⟨p0, p1, p2⟩ := bl_cells HD2.out
      clear hb2 c1 c2 c3
      cases hqo : quoteOk y
      · obtain ⟨e1, e2⟩ := HHit.out (by rw [HDO.out, hqo]; rfl)
        have E1 := Kp.mk e1
        have E2 := Kp.mk e2
        clear e1 e2
        go_wp2_with fail
        go_ret2
        exact ⟨by rw [E1.out, E2.out]; rfl, HB2.out⟩
      · cases hto : tokenB x
        · obtain ⟨e1, e2⟩ := HHit.out (by rw [HDO.out, hqo, hto]; rfl)
          have E1 := Kp.mk e1
          have E2 := Kp.mk e2
          clear e1 e2
          go_wp2_with fail
          refine (oct_token_any x _ (by unfold maxLen; omega)).mono ?_
          rintro e w3 ⟨rfl, hb3⟩
          have HD3 := Kp.mk (HD2.out.below hb3)
          have HO3 := Kp.mk (own_bel HO2.out hb3)
          have HB3 := Kp.mk (HB2.out.trans (hb3.mono HB2.out.size))
          have hsz3 := HB3.out.size
          obtain ⟨s0, s1, s2⟩ := bl_cells HD3.out
          clear hb3 p0 p1 p2
          rw [hto]
          go_wp2_with fail
          go_ret2
          exact ⟨by rw [E1.out, E2.out]; rfl, HB3.out⟩
        · cases b
          · by_cases hy : y.size = 0
            · have hye : y.toList = [] := tl_of_size hy
              have HN2 := Kp.mk (HN.out (by rw [HDO.out, hqo, hto, decide_eq_true hy]; rfl))
              have HTX := Kp.mk (show dtT (x, y, false) = x from rfl)
              clear hy
              go_wp2_with fail
              refine (oct_token_any x _ (by unfold maxLen; omega)).mono ?_
              rintro e w3 ⟨rfl, hb3⟩
              have HD3 := Kp.mk (HD2.out.below hb3)
              have HO3 := Kp.mk (own_bel HO2.out hb3)
              have HB3 := Kp.mk (HB2.out.trans (hb3.mono HB2.out.size))
              have hsz3 := HB3.out.size
              obtain ⟨s0, s1, s2⟩ := bl_cells HD3.out
              clear hb3 p0 p1 p2
              rw [hto]
              go_wp2_with (at_builtin; refine app_any rfl _ _ _ _ rfl Try.underlying64 _ _ _ Try.infoSH rfl (by omega) w.heap.size _ _ _ rfl HO3.out #[.string x] rfl (fun u hu => by simp at hu; subst hu; rfl) _ rfl rfl hlen hmx hsz3 ?_; intro g' cap' w' h1 h2 h3; have G1 := Kp.mk h1; have G2 := Kp.mk (grown_bel HO3.out hsz3 h2); clear h1 h2 h3)
              go_roundw
              case rel =>
                refine ⟨k + 1, by omega, by go_num, HN2.out, ?_, HB3.out.trans G2.out⟩
                rw [HST.out, HTX.out, List.length_append, svH_snoc]
                exact G1.out
              case measure => simp [intOf]; omega
            · have hye : y.toList.isEmpty = false := tl_ne_size (by omega)
              obtain ⟨e1, e2⟩ := HHit.out (by rw [HDO.out, hqo, hto, decide_eq_false hy]; rfl)
              have E1 := Kp.mk e1
              have E2 := Kp.mk e2
              clear e1 e2 hy
              go_wp2_with fail
              refine (oct_token_any x _ (by unfold maxLen; omega)).mono ?_
              rintro e w3 ⟨rfl, hb3⟩
              have HD3 := Kp.mk (HD2.out.below hb3)
              have HO3 := Kp.mk (own_bel HO2.out hb3)
              have HB3 := Kp.mk (HB2.out.trans (hb3.mono HB2.out.size))
              have hsz3 := HB3.out.size
              obtain ⟨s0, s1, s2⟩ := bl_cells HD3.out
              clear hb3 p0 p1 p2
              rw [hto]
              go_wp2_with fail
              go_ret2
              exact ⟨by rw [E1.out, E2.out]; rfl, HB3.out⟩
          · have HN2 := Kp.mk (HN.out (by rw [HDO.out, hqo, hto]; rfl))
            have HTX := Kp.mk (show dtT (x, y, true) = x ++ ⟨#[61]⟩ ++ quoteS y from rfl)
            generalize quoteS y = qs at *
            go_wp2_with fail
            refine (oct_token_any x _ (by unfold maxLen; omega)).mono ?_
            rintro e w3 ⟨rfl, hb3⟩
            have HD3 := Kp.mk (HD2.out.below hb3)
            have HO3 := Kp.mk (own_bel HO2.out hb3)
            have HB3 := Kp.mk (HB2.out.trans (hb3.mono HB2.out.size))
            have hsz3 := HB3.out.size
            obtain ⟨s0, s1, s2⟩ := bl_cells HD3.out
            clear hb3 p0 p1 p2
            rw [hto]
            go_wp2_with (at_builtin; refine app_any rfl _ _ _ _ rfl Try.underlying64 _ _ _ Try.infoSH rfl (by omega) w.heap.size _ _ _ rfl HO3.out _ rfl (fun u hu => by simp at hu; subst hu; rfl) _ rfl rfl hlen hmx hsz3 ?_; intro g' cap' w' h1 h2 h3; have G1 := Kp.mk h1; have G2 := Kp.mk (grown_bel HO3.out hsz3 h2); clear h1 h2 h3)
            go_roundw
            case rel =>
              refine ⟨k + 1, by omega, by go_num, HN2.out, ?_, HB3.out.trans G2.out⟩
              rw [HST.out, HTX.out, List.length_append, svH_snoc]
              exact G1.out
            case measure => simp [intOf]; omega
    · obtain ⟨e1, e2⟩ := HEN.out k (by omega) HOK.out
      have E1 := Kp.mk e1
      have E2 := Kp.mk e2
      have HRD := Kp.mk (rds_own HO.out)
      have HSM2 := Kp.mk (HSM.out k)
      clear e1 e2
      generalize txP l k = P at *
      go_wp2_with fail
      refine (hjoin_any _ P _ HRD.out HSM2.out (by omega)).mono ?_
      rintro e w9 ⟨rfl, hb9⟩
      have HB9 := Kp.mk (HB.out.trans (hb9.mono hsz))
      clear hb9
      go_wp2_with fail
      go_ret2
      exact ⟨by rw [E1.out, E2.out]; rfl, HB9.out⟩
end Go.Proofs.Ytahehpgnemanmaa
