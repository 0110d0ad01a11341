/- Settings (layer 13): Print on both sides (bin/mkcfe.py). -/
import Derived.Test.YtggnnaafkekihaaDoorCfd
import Derived.Test.YtggnnaafkekihaaDoorHde
import Derived.Test.YtggnnaafkekihaaDoorShj
namespace Go.Proofs.YtggnnaafkekihaaDoor
open Go.RowKit
set_option linter.unusedVariables false
set_option linter.unusedSimpArgs false

def cfAu (n1 : ByteArray) : ByteArray := if n1.size = 0 then ⟨#[45]⟩ else n1
def cfTx (n : Int) : ByteArray := ofL (textL n)
theorem cfTx_le (n : Int) : (cfTx n).size ≤ 21 := by unfold cfTx; rw [ofL_size]; exact textL_len n
def cfV (n0 au : ByteArray) (L : List Int) : List ByteArray := [n0, au] ++ L.map cfTx
def cfW (n0 n1 : ByteArray) (L : List Int) : List ByteArray := cfV n0 (cfAu n1) L
def cfJ (W : List ByteArray) : ByteArray := ⟨(Lib.join (W.map (·.data.toList)) [32]).toArray⟩
def cfT (n0 n1 : ByteArray) (L : List Int) : ByteArray := if cfE n0 n1 L = 0 then cfJ (cfW n0 n1 L) else ⟨#[]⟩
theorem join_snoc (W : List (List UInt8)) (x s : List UInt8) (h : W ≠ []) : Lib.join (W ++ [x]) s = Lib.join W s ++ (s ++ x) := by
  cases W with
  | nil => exact absurd rfl h
  | cons a W =>
    rw [List.cons_append, Lib.join_cons, Lib.join_cons]
    simp [Lib.joinTail]
theorem cfJ_snoc (W : List ByteArray) (x : ByteArray) (h : W ≠ []) : cfJ (W ++ [x]) = cfJ W ++ ⟨#[32]⟩ ++ x := by
  apply cf_tl.1
  rw [ByteArray.toList_eq, ByteArray.toList_eq]
  unfold cfJ
  simp [List.map_append, join_snoc _ _ _ (by simpa using h : W.map (·.data.toList) ≠ [])]
theorem cfW_size {n0 n1 : ByteArray} {L : List Int} (h0 : n0.size ≤ 1000) (h1 : n1.size ≤ 1000) : ∀ x ∈ cfW n0 n1 L, x.size ≤ 1000 := by
  intro x hx
  unfold cfW cfV at hx
  rcases List.mem_append.1 hx with hx | hx
  · simp at hx
    rcases hx with rfl | rfl
    · omega
    · unfold cfAu
      split
      · show (1 : Nat) ≤ 1000
        omega
      · exact h1
  · obtain ⟨n, _, rfl⟩ := List.mem_map.1 hx
    exact Nat.le_trans (cfTx_le n) (by omega)
theorem tail_size : ∀ (W : List (List UInt8)), (∀ x ∈ W, x.length ≤ 1000) → (Lib.joinTail [32] W).length ≤ W.length * 1001
  | [], _ => by simp [Lib.joinTail]
  | a :: W, h => by
    have h1 := tail_size W (fun x hx => h x (List.mem_cons_of_mem _ hx))
    have h2 := h a (by simp)
    have e : Lib.joinTail [32] (a :: W) = [32] ++ a ++ Lib.joinTail [32] W := by simp [Lib.joinTail]
    rw [e]
    simp only [List.length_append, List.length_cons, List.length_nil]
    omega
theorem join_size (W : List (List UInt8)) (h : ∀ x ∈ W, x.length ≤ 1000) : (Lib.join W [32]).length ≤ W.length * 1001 := by
  cases W with
  | nil => simp [Lib.join]
  | cons a W =>
    rw [Lib.join_cons]
    have h1 := tail_size W (fun x hx => h x (List.mem_cons_of_mem _ hx))
    have h2 := h a (by simp)
    simp only [List.length_append, List.length_cons]
    omega
set_option maxRecDepth 100000 in
set_option maxHeartbeats 4000000 in
theorem cfE_zero {n0 n1 : ByteArray} {L : List Int} (h : cfE n0 n1 L = 0) : cfIn L = true := by
  unfold cfE at h
  split at h
  · omega
  · split at h
    · omega
    · cases hi : cfIn L
      · rw [hi] at h
        simp at h
      · rfl
theorem cfIn_at {L : List Int} (h : cfIn L = true) (k : Nat) (hk : k < 16) : 0 ≤ L.getD k 0 ∧ L.getD k 0 ≤ 1073741824 := by
  unfold cfIn at h
  have h1 := List.all_eq_true.1 h k (List.mem_range.2 hk)
  rw [Bool.and_eq_true, decide_eq_true_eq, decide_eq_true_eq] at h1
  have h2 : ∀ k, k < 16 → 0 ≤ cfLo k ∧ cfHi k ≤ 1073741824 := by decide
  have := h2 k hk
  omega
theorem cf_fm {w : World} {B : Nat} {e : TypeId} {sz n : Nat} {a : Option Addr} {c : Nat} {xs : List Value} (h : w.ownsRow B e sz (.slice a n c) n xs) : n ≤ c := by
  rcases h.2 with ⟨hv, h0⟩ | ⟨g, cap, cur, hv, h1, h2, h3, h4, h5⟩
  · omega
  · cases hv
    exact h3
theorem cf_cellsS {w : World} {B g c : Nat} {L : List ByteArray} (h : w.ownsRow B 9 1 (.slice (some ⟨g, 0, none⟩) L.length c) L.length (svH L)) : ∀ (j : Nat) (x : ByteArray), L[j]? = some x → w.cell? ⟨g, 0 + j, none⟩ = some (.string x) := fun j x hx => by
  obtain ⟨hj, rfl⟩ := List.getElem?_eq_some_iff.1 hx
  obtain ⟨b, o, he, _, dd⟩ := rds_cells (rds_own h) (by omega)
  cases he
  exact dd j hj
theorem cf_index (Ls : List Int) (k : Nat) (hk : k < 16) (hl : Ls.length = 16) (w : World) : Sem.run Tryd.prog (Instr.index 33 (.agg (cfNU Ls)) (.int .i64 k)) w = .ok (.int .i64 (Ls.getD k 0)) w := by
  have h := cfNU_at Ls k (by omega)
  have q : (k : Int) < 16 := by omega
  simp [Instr.index, asIntOf, go_sem, part, h, q]
  intro hh
  omega
set_option maxRecDepth 100000 in
set_option maxHeartbeats 4000000 in
theorem cf_print (n0 n1 : ByteArray) (c0 c1 c2 c3 c4 c5 c6 c7 c8 c9 c10 c11 c12 c13 c14 c15 : Int) (w : World) (h0 : n0.size ≤ 1000) (h1 : n1.size ≤ 1000) :
    Calls Tryd.prog 10 #[.agg #[.string n0, .string n1, .int .i64 c0, .int .i64 c1, .int .i64 c2, .int .i64 c3, .int .i64 c4, .int .i64 c5, .int .i64 c6, .int .i64 c7, .int .i64 c8, .int .i64 c9, .int .i64 c10, .int .i64 c11, .int .i64 c12, .int .i64 c13, .int .i64 c14, .int .i64 c15]] w fun e w' => e = .returned (.string (cfT n0 n1 [c0, c1, c2, c3, c4, c5, c6, c7, c8, c9, c10, c11, c12, c13, c14, c15])) ∧ Below w.heap.size w w' := by
  have HB := Kp.mk (show Below w.heap.size w (w.alloc (.cells #[.string n0, .string n1, .int .i64 c0, .int .i64 c1, .int .i64 c2, .int .i64 c3, .int .i64 c4, .int .i64 c5, .int .i64 c6, .int .i64 c7, .int .i64 c8, .int .i64 c9, .int .i64 c10, .int .i64 c11, .int .i64 c12, .int .i64 c13, .int .i64 c14, .int .i64 c15] 25)) from below_alF (Below.refl _ _) (Nat.le_refl _) _)
  have BX := Kp.mk (heap_alloc_new w (.cells #[.string n0, .string n1, .int .i64 c0, .int .i64 c1, .int .i64 c2, .int .i64 c3, .int .i64 c4, .int .i64 c5, .int .i64 c6, .int .i64 c7, .int .i64 c8, .int .i64 c9, .int .i64 c10, .int .i64 c11, .int .i64 c12, .int .i64 c13, .int .i64 c14, .int .i64 c15] 25))
  have HNU := Kp.mk (fun w => (cf_numbers n0 n1 c0 c1 c2 c3 c4 c5 c6 c7 c8 c9 c10 c11 c12 c13 c14 c15 w))
  obtain ⟨Ls, hLs⟩ : ∃ Ls : List Int, Ls = [c0, c1, c2, c3, c4, c5, c6, c7, c8, c9, c10, c11, c12, c13, c14, c15] := ⟨_, rfl⟩
  have HLL := Kp.mk (show Ls.length = 16 by rw [hLs]; rfl)
  replace HNU := Kp.mk (show ∀ w, Calls Tryd.prog 18 #[.agg #[.string n0, .string n1, .int .i64 c0, .int .i64 c1, .int .i64 c2, .int .i64 c3, .int .i64 c4, .int .i64 c5, .int .i64 c6, .int .i64 c7, .int .i64 c8, .int .i64 c9, .int .i64 c10, .int .i64 c11, .int .i64 c12, .int .i64 c13, .int .i64 c14, .int .i64 c15]] w fun e w' => e = .returned (.agg (cfNU Ls)) ∧ Below w.heap.size w w' from fun w => by rw [hLs]; exact HNU.out w)
  have HRI := Kp.mk (show ∀ w, Calls Tryd.prog 17 #[.agg #[.string n0, .string n1, .int .i64 c0, .int .i64 c1, .int .i64 c2, .int .i64 c3, .int .i64 c4, .int .i64 c5, .int .i64 c6, .int .i64 c7, .int .i64 c8, .int .i64 c9, .int .i64 c10, .int .i64 c11, .int .i64 c12, .int .i64 c13, .int .i64 c14, .int .i64 c15]] w fun e w' => e = .returned (.int .i64 (cfE n0 n1 Ls)) ∧ Below w.heap.size w w' from fun w => by rw [hLs]; exact cf_right n0 n1 c0 c1 c2 c3 c4 c5 c6 c7 c8 c9 c10 c11 c12 c13 c14 c15 w h0 h1)
  rw [← hLs]
  have HSZ := Kp.mk (show ∀ x ∈ cfW n0 n1 Ls, x.size ≤ 1000 from cfW_size h0 h1)
  clear hLs h0 h1
  go_enter Tryd.func10, Tryd.ntmps10
  go_upto_region 1 with fail
  repeat ((fail_if_success (with_reducible show Oper.wp _ (Oper.mk _ (.load 25 _) _ _ _ _) _ _ _ _)); go_step)
  refine wp_load_row _ _ (by rfl) w.heap.size (by rfl) _ _ _ _ BX.out Tryd.underlying25 rfl (by kernel_rfl) ?_
  simp only [Act.put]
  have hsz0 : w.heap.size < (w.alloc (.cells #[.string n0, .string n1, .int .i64 c0, .int .i64 c1, .int .i64 c2, .int .i64 c3, .int .i64 c4, .int .i64 c5, .int .i64 c6, .int .i64 c7, .int .i64 c8, .int .i64 c9, .int .i64 c10, .int .i64 c11, .int .i64 c12, .int .i64 c13, .int .i64 c14, .int .i64 c15] 25)).heap.size := blk_lt BX.out
  generalize w.alloc (.cells #[.string n0, .string n1, .int .i64 c0, .int .i64 c1, .int .i64 c2, .int .i64 c3, .int .i64 c4, .int .i64 c5, .int .i64 c6, .int .i64 c7, .int .i64 c8, .int .i64 c9, .int .i64 c10, .int .i64 c11, .int .i64 c12, .int .i64 c13, .int .i64 c14, .int .i64 c15] 25) = wa at *
  go_wp2_with fail
  refine (HRI.out _).mono ?_
  rintro e w1 ⟨rfl, hb1⟩
  replace BX := Kp.mk ((hb1.block _ hsz0).trans BX.out)
  replace HB := Kp.mk (HB.out.trans (hb1.mono (by omega)))
  have hsz1 : w.heap.size < w1.heap.size := blk_lt BX.out
  clear hb1 hsz0
  have e0 : w1.cell? ⟨w.heap.size, 0, none⟩ = some (.string n0) := blk_cell BX.out rfl
  have e1 : w1.cell? ⟨w.heap.size, 1, none⟩ = some (.string n1) := blk_cell BX.out rfl
  have HIN0 := Kp.mk (fun h : cfE n0 n1 Ls = 0 => cfE_zero h)
  have HCT := Kp.mk (show cfT n0 n1 Ls = if cfE n0 n1 Ls = 0 then cfJ (cfW n0 n1 Ls) else ⟨#[]⟩ from rfl)
  generalize cfE n0 n1 Ls = r at *
  by_cases hr : r = 0
  case neg =>
    have hr2 : (r == 0) = false := by simpa using hr
    go_wp2_with fail
    go_ret
    rw [HCT.out, if_neg hr]
    exact ⟨rfl, HB.out⟩
  subst hr
  have HIN := Kp.mk (HIN0.out rfl)
  replace HCT := Kp.mk (HCT.out.trans (if_pos rfl))
  have hway : n1 = ⟨#[]⟩ ∨ n1.size ≠ 0 := by
    by_cases h : n1.size = 0
    · left
      cases n1 with
      | mk d =>
        have : d = #[] := Array.size_eq_zero_iff.1 h
        rw [this]
    · exact .inr h
  rcases hway with rfl | hn
  · have HAU := Kp.mk (show cfAu ⟨#[]⟩ = ⟨#[45]⟩ from rfl)
    go_upto_region 7 with fail
    have HO := Kp.mk (show (w1.alloc (.cells #[.string n0, .string (⟨#[45]⟩ : ByteArray)] 9)).ownsRow w.heap.size 9 1 (.slice (some ⟨w1.heap.size, 0, none⟩) 2 2) 2 (svH [n0, (⟨#[45]⟩ : ByteArray)]) from
      World.ownsRow_lit (base := w.heap.size) (e := 9) (size := 1) w1 #[.string n0, .string (⟨#[45]⟩ : ByteArray)] 2 (by omega) (by unfold maxLen; omega) rfl)
    have hbw : Below w1.heap.size w1 (w1.alloc (.cells #[.string n0, .string (⟨#[45]⟩ : ByteArray)] 9)) := below_alF (Below.refl _ _) (Nat.le_refl _) _
    replace BX := Kp.mk ((hbw.block _ hsz1).trans BX.out)
    replace HB := Kp.mk (HB.out.trans (hbw.mono (by omega)))
    have HWV := Kp.mk (show cfW n0 (⟨#[]⟩ : ByteArray) Ls = cfV n0 (⟨#[45]⟩ : ByteArray) Ls by unfold cfW; rw [HAU.out])
    have hsz2 := hbw.size
    clear hbw e0 e1 HAU
    generalize w1.alloc (.cells #[.string n0, .string (⟨#[45]⟩ : ByteArray)] 9) = w2 at *
    repeat ((fail_if_success (with_reducible show Oper.wp _ (Oper.mk _ (.load 25 _) _ _ _ _) _ _ _ _)); go_step)
    refine wp_load_row _ _ (by rfl) w.heap.size (by rfl) _ _ _ _ BX.out Tryd.underlying25 rfl (by kernel_rfl) ?_
    simp only [Act.put]
    go_wp2_with fail
    refine (HNU.out _).mono ?_
    rintro e w3 ⟨rfl, hb3⟩
    have HO3 := Kp.mk (own_bel HO.out hb3)
    replace HB := Kp.mk (HB.out.trans (hb3.mono (by omega)))
    have hsz3 := hb3.size
    clear hb3 HO BX HNU HRI
    go_wp2_with fail
    go_loopw [4, 20] (fun ov i wr => ∃ k : Nat, k ≤ 16 ∧ i = .int .i64 k ∧ wr.ownsRow w.heap.size 9 1 ov (cfV n0 (⟨#[45]⟩ : ByteArray) (Ls.take k)).length (svH (cfV n0 (⟨#[45]⟩ : ByteArray) (Ls.take k))) ∧ Below w.heap.size w wr) (fun _ i _ => 16 - (intOf i).toNat)
    case atStart => exact ⟨0, by omega, rfl, HO3.out, HB.out⟩
    case round =>
      obtain ⟨k, hk, rfl, ho, hb⟩ := hrel
      have HOW := Kp.mk ho
      have HBW := Kp.mk hb
      obtain ⟨ao, co, rfl⟩ := own_lenH ho
      have hal : (cfV n0 (⟨#[45]⟩ : ByteArray) (Ls.take k)).length ≤ 18 := by unfold cfV; rw [List.length_append, List.length_map, List.length_take]; simp; omega
      have hszw := hb.size
      clear ho hb
      by_cases hlt : k < 16
      · have HIX := cfNU_at Ls k (by rw [HLL.out]; exact hlt)
        have HST := Kp.mk (show cfV n0 (⟨#[45]⟩ : ByteArray) (Ls.take (k + 1)) = cfV n0 (⟨#[45]⟩ : ByteArray) (Ls.take k) ++ [cfTx (Ls.getD k 0)] by
          unfold cfV
          rw [List.take_succ_eq_append_getElem (by rw [HLL.out]; exact hlt), List.map_append, ← List.append_assoc]
          simp [List.getD_eq_getElem?_getD, List.getElem?_eq_getElem (show k < Ls.length by rw [HLL.out]; exact hlt)])
        have HXI := Kp.mk (cfIn_at HIN.out k hlt)
        have HIC := Kp.mk (cf_index Ls k hlt HLL.out)
        generalize Ls.getD k 0 = x at *
        have hic := HIC.out
        generalize cfV n0 (⟨#[45]⟩ : ByteArray) (Ls.take k) = acc at *
        have q1 : (k : Int) < 16 := by omega
        have q0 : (0 : Int) ≤ (k : Int) := by omega
        go_wp2_with fail
        refine (text_any x _ (by have := HXI.out; omega) (by have := HXI.out; omega)).mono ?_
        rintro e w4 ⟨rfl, hb4⟩
        have HO4 := Kp.mk (own_bel HOW.out hb4)
        have HB4 := Kp.mk (HBW.out.trans (hb4.mono hszw))
        have hsz4 := HB4.out.size
        have HTX := Kp.mk (show cfTx x = ofL (textL x) from rfl)
        generalize ofL (textL x) = tx at *
        have hlen : (acc.length + 1) * 16 ≤ 140737488355328 := by omega
        have hmx : acc.length + 1 ≤ maxLen := by unfold maxLen; omega
        clear hb4
        go_wp2_with (at_builtin; refine app_any rfl _ _ _ _ rfl Tryd.underlying31 _ _ _ Tryd.infoSH rfl (by omega) w.heap.size _ _ _ rfl HO4.out #[.string tx] rfl (fun u hu => by simp at hu; subst hu; rfl) _ rfl rfl hlen hmx hsz4 ?_; intro g' cap' w' h1 h2 h3; have H1 := Kp.mk h1; have H2 := Kp.mk h2; clear h1 h2 h3)
        go_roundw
        case rel =>
          refine ⟨k + 1, by omega, by go_num, ?_, HB4.out.trans ((grown_bel HO4.out hsz4 H2.out).mono (by omega))⟩
          rw [HST.out, HTX.out, List.length_append, svH_snoc]
          exact H1.out
        case measure => simp [intOf] <;> omega
      · obtain rfl : k = 16 := by omega
        have HTK := Kp.mk (show Ls.take 16 = Ls from List.take_of_length_le (by rw [HLL.out]; omega))
        rw [HTK.out] at HOW hal ⊢
        rw [HWV.out] at HSZ HCT
        have H18 := Kp.mk (show (cfV n0 (⟨#[45]⟩ : ByteArray) Ls).length = 18 by unfold cfV; rw [List.length_append, List.length_map, HLL.out]; rfl)
        obtain ⟨gg, rfl⟩ : ∃ gg, ao = some ⟨gg, 0, none⟩ := by
          rcases HOW.out.2 with ⟨hv, h0⟩ | ⟨g, cap, cur, hv, _⟩
          · have := H18.out; omega
          · cases hv; exact ⟨_, rfl⟩
        have HCJ := Kp.mk (show cfJ (cfV n0 (⟨#[45]⟩ : ByteArray) Ls) = ⟨(Lib.join ((cfV n0 (⟨#[45]⟩ : ByteArray) Ls).map (·.data.toList)) (⟨#[32]⟩ : ByteArray).data.toList).toArray⟩ from rfl)
        have HJZ := Kp.mk (join_size ((cfV n0 (⟨#[45]⟩ : ByteArray) Ls).map (·.data.toList)) (fun x hx => by
          obtain ⟨y, hy, rfl⟩ := List.mem_map.1 hx
          rw [← ba_size]
          exact HSZ.out y hy))
        clear hal
        generalize cfV n0 (⟨#[45]⟩ : ByteArray) Ls = W at *
        go_wp2_with fail
        refine (Tryd.strings_Join gg 0 co W ⟨#[32]⟩ _ (cf_cellsS HOW.out) (HOW.out.lt gg rfl).2 (by have := H18.out; omega) (cf_fm HOW.out) (by have := HJZ.out; rw [List.length_map, H18.out] at this; exact Nat.le_trans this (by omega))).mono ?_
        rintro e w5 ⟨rfl, hb5⟩
        go_wp2_with fail
        go_ret
        rw [HCT.out, HCJ.out]
        exact ⟨rfl, HBW.out.trans (hb5.mono hszw)⟩
  · have HAU := Kp.mk (show cfAu n1 = n1 from if_neg hn)
    obtain ⟨hm1, hm2⟩ := cf_emp hn
    clear hn
    go_upto_region 7 with fail
    have HO := Kp.mk (show (w1.alloc (.cells #[.string n0, .string n1] 9)).ownsRow w.heap.size 9 1 (.slice (some ⟨w1.heap.size, 0, none⟩) 2 2) 2 (svH [n0, n1]) from
      World.ownsRow_lit (base := w.heap.size) (e := 9) (size := 1) w1 #[.string n0, .string n1] 2 (by omega) (by unfold maxLen; omega) rfl)
    have hbw : Below w1.heap.size w1 (w1.alloc (.cells #[.string n0, .string n1] 9)) := below_alF (Below.refl _ _) (Nat.le_refl _) _
    replace BX := Kp.mk ((hbw.block _ hsz1).trans BX.out)
    replace HB := Kp.mk (HB.out.trans (hbw.mono (by omega)))
    have HWV := Kp.mk (show cfW n0 n1 Ls = cfV n0 n1 Ls by unfold cfW; rw [HAU.out])
    have hsz2 := hbw.size
    clear hbw e0 e1 HAU
    generalize w1.alloc (.cells #[.string n0, .string n1] 9) = w2 at *
    repeat ((fail_if_success (with_reducible show Oper.wp _ (Oper.mk _ (.load 25 _) _ _ _ _) _ _ _ _)); go_step)
    refine wp_load_row _ _ (by rfl) w.heap.size (by rfl) _ _ _ _ BX.out Tryd.underlying25 rfl (by kernel_rfl) ?_
    simp only [Act.put]
    go_wp2_with fail
    refine (HNU.out _).mono ?_
    rintro e w3 ⟨rfl, hb3⟩
    have HO3 := Kp.mk (own_bel HO.out hb3)
    replace HB := Kp.mk (HB.out.trans (hb3.mono (by omega)))
    have hsz3 := hb3.size
    clear hb3 HO BX HNU HRI
    go_wp2_with fail
    go_loopw [4, 20] (fun ov i wr => ∃ k : Nat, k ≤ 16 ∧ i = .int .i64 k ∧ wr.ownsRow w.heap.size 9 1 ov (cfV n0 n1 (Ls.take k)).length (svH (cfV n0 n1 (Ls.take k))) ∧ Below w.heap.size w wr) (fun _ i _ => 16 - (intOf i).toNat)
    case atStart => exact ⟨0, by omega, rfl, HO3.out, HB.out⟩
    case round =>
      obtain ⟨k, hk, rfl, ho, hb⟩ := hrel
      have HOW := Kp.mk ho
      have HBW := Kp.mk hb
      obtain ⟨ao, co, rfl⟩ := own_lenH ho
      have hal : (cfV n0 n1 (Ls.take k)).length ≤ 18 := by unfold cfV; rw [List.length_append, List.length_map, List.length_take]; simp; omega
      have hszw := hb.size
      clear ho hb
      by_cases hlt : k < 16
      · have HIX := cfNU_at Ls k (by rw [HLL.out]; exact hlt)
        have HST := Kp.mk (show cfV n0 n1 (Ls.take (k + 1)) = cfV n0 n1 (Ls.take k) ++ [cfTx (Ls.getD k 0)] by
          unfold cfV
          rw [List.take_succ_eq_append_getElem (by rw [HLL.out]; exact hlt), List.map_append, ← List.append_assoc]
          simp [List.getD_eq_getElem?_getD, List.getElem?_eq_getElem (show k < Ls.length by rw [HLL.out]; exact hlt)])
        have HXI := Kp.mk (cfIn_at HIN.out k hlt)
        have HIC := Kp.mk (cf_index Ls k hlt HLL.out)
        generalize Ls.getD k 0 = x at *
        have hic := HIC.out
        generalize cfV n0 n1 (Ls.take k) = acc at *
        have q1 : (k : Int) < 16 := by omega
        have q0 : (0 : Int) ≤ (k : Int) := by omega
        go_wp2_with fail
        refine (text_any x _ (by have := HXI.out; omega) (by have := HXI.out; omega)).mono ?_
        rintro e w4 ⟨rfl, hb4⟩
        have HO4 := Kp.mk (own_bel HOW.out hb4)
        have HB4 := Kp.mk (HBW.out.trans (hb4.mono hszw))
        have hsz4 := HB4.out.size
        have HTX := Kp.mk (show cfTx x = ofL (textL x) from rfl)
        generalize ofL (textL x) = tx at *
        have hlen : (acc.length + 1) * 16 ≤ 140737488355328 := by omega
        have hmx : acc.length + 1 ≤ maxLen := by unfold maxLen; omega
        clear hb4
        go_wp2_with (at_builtin; refine app_any rfl _ _ _ _ rfl Tryd.underlying31 _ _ _ Tryd.infoSH rfl (by omega) w.heap.size _ _ _ rfl HO4.out #[.string tx] rfl (fun u hu => by simp at hu; subst hu; rfl) _ rfl rfl hlen hmx hsz4 ?_; intro g' cap' w' h1 h2 h3; have H1 := Kp.mk h1; have H2 := Kp.mk h2; clear h1 h2 h3)
        go_roundw
        case rel =>
          refine ⟨k + 1, by omega, by go_num, ?_, HB4.out.trans ((grown_bel HO4.out hsz4 H2.out).mono (by omega))⟩
          rw [HST.out, HTX.out, List.length_append, svH_snoc]
          exact H1.out
        case measure => simp [intOf] <;> omega
      · obtain rfl : k = 16 := by omega
        have HTK := Kp.mk (show Ls.take 16 = Ls from List.take_of_length_le (by rw [HLL.out]; omega))
        rw [HTK.out] at HOW hal ⊢
        rw [HWV.out] at HSZ HCT
        have H18 := Kp.mk (show (cfV n0 n1 Ls).length = 18 by unfold cfV; rw [List.length_append, List.length_map, HLL.out]; rfl)
        obtain ⟨gg, rfl⟩ : ∃ gg, ao = some ⟨gg, 0, none⟩ := by
          rcases HOW.out.2 with ⟨hv, h0⟩ | ⟨g, cap, cur, hv, _⟩
          · have := H18.out; omega
          · cases hv; exact ⟨_, rfl⟩
        have HCJ := Kp.mk (show cfJ (cfV n0 n1 Ls) = ⟨(Lib.join ((cfV n0 n1 Ls).map (·.data.toList)) (⟨#[32]⟩ : ByteArray).data.toList).toArray⟩ from rfl)
        have HJZ := Kp.mk (join_size ((cfV n0 n1 Ls).map (·.data.toList)) (fun x hx => by
          obtain ⟨y, hy, rfl⟩ := List.mem_map.1 hx
          rw [← ba_size]
          exact HSZ.out y hy))
        clear hal
        generalize cfV n0 n1 Ls = W at *
        go_wp2_with fail
        refine (Tryd.strings_Join gg 0 co W ⟨#[32]⟩ _ (cf_cellsS HOW.out) (HOW.out.lt gg rfl).2 (by have := H18.out; omega) (cf_fm HOW.out) (by have := HJZ.out; rw [List.length_map, H18.out] at this; exact Nat.le_trans this (by omega))).mono ?_
        rintro e w5 ⟨rfl, hb5⟩
        go_wp2_with fail
        go_ret
        rw [HCT.out, HCJ.out]
        exact ⟨rfl, HBW.out.trans (hb5.mono hszw)⟩
end Go.Proofs.YtggnnaafkekihaaDoor
