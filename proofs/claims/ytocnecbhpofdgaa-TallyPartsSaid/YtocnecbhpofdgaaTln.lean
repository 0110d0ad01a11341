/- Tally (layer 49): the document's Count. -/
import Derived.Test.YtocnecbhpofdgaaTlm
import Derived.Test.YtocnecbhpofdgaaApr
import Derived.Test.YtocnecbhpofdgaaHde
import Derived.Deep.QuietTactic
import Derived.BigQuiet
import Derived.Deep.DeepCutAuto
namespace Go.Proofs.Ytocnecbhpofdgaa
open Go.RowKit Go.Shelf Go.Lib Go.Sort
set_option linter.unusedVariables false
set_option linter.unusedSimpArgs false

theorem Try.infoRd : (Try.prog.info? 68).map (fun i => (i.zero, i.size, i.bytes)) = some (some (.agg #[.string ByteArray.empty, .int .i64 0]), 2, 24) := by kernel_rfl
theorem strC_len (x : ByteArray) : (strC x).length = 1 := rfl
theorem strC_one (x : ByteArray) (u : Value) (h : u ∈ strC x) : u.oneCell' = true := by
  simp [strC] at h
  subst h
  rfl
/-- What is counted, in the document's way. -/
def cntF (l : List ByteArray) : List Srw := cntD l.length l
theorem cntD_fuel (n : Nat) (l : List ByteArray) (h : l.length ≤ n) : cntD n l = cntF l := by
  obtain ⟨a1, a2⟩ := cntD_ok n l h
  obtain ⟨b1, b2⟩ := cntD_ok l.length l (Nat.le_refl _)
  exact pw_uniq (R := fun p q => rkL p q = true) (fun p q h => rkL_asym h) a1 b1 fun p => (a2 p).trans (b2 p).symm
theorem cntF_nil {l : List ByteArray} (h : l.length = 0) : cntF l = [] := by unfold cntF; rw [h]; rfl
theorem cntF_cons {l : List ByteArray} (h : 0 < l.length) : cntF l = bstD l l.length :: cntF (lefD l (bstD l l.length).1) := by
  have hm : (bstD l l.length).1 ∈ l := by
    rcases bstD_ok l l.length (Nat.le_refl _) with ⟨h9, _⟩ | ⟨h1, _⟩
    · omega
    · exact h1
  have hl := lefD_len hm
  show cntD l.length l = _
  obtain ⟨n, hn⟩ : ∃ n, l.length = n + 1 := ⟨l.length - 1, by omega⟩
  rw [hn, cntD, if_neg (by omega), cntD_fuel n _ (by omega), hn]
/-- How often x is among the first k. -/
def ctK (l : List ByteArray) (k : Nat) (x : ByteArray) : Nat := ((l.take k).filter fun y => decide (y = x)).length
theorem ctK_le (l : List ByteArray) (k : Nat) (x : ByteArray) : ctK l k x ≤ k := by
  unfold ctK
  have := List.length_filter_le (fun y => decide (y = x)) (l.take k)
  rw [List.length_take] at this
  omega
theorem ctK_succ (l : List ByteArray) (k : Nat) (x : ByteArray) (h : k < l.length) : ctK l (k + 1) x = ctK l k x + if l[k] = x then 1 else 0 := by
  unfold ctK
  rw [List.take_succ_eq_append_getElem h, List.filter_append, List.length_append]
  by_cases e : l[k] = x <;> simp [e]
theorem ctK_all (l : List ByteArray) (x : ByteArray) : (ctK l l.length x : Int) = ctB l x := by
  unfold ctK ctB
  rw [List.take_length]
def lefK (l : List ByteArray) (k : Nat) (b : ByteArray) : List ByteArray := lefD (l.take k) b
theorem lefK_succ (l : List ByteArray) (k : Nat) (b : ByteArray) (h : k < l.length) : lefK l (k + 1) b = lefK l k b ++ (if l[k] = b then [] else [l[k]]) := by
  unfold lefK lefD
  rw [List.take_succ_eq_append_getElem h, List.filter_append]
  by_cases e : l[k] = b <;> simp [e]
theorem lefK_len (l : List ByteArray) (k : Nat) (b : ByteArray) : (lefK l k b).length ≤ k := by
  unfold lefK lefD
  have := List.length_filter_le (fun y => decide (y ≠ b)) (l.take k)
  rw [List.length_take] at this
  omega
theorem lefK_all (l : List ByteArray) (b : ByteArray) : lefK l l.length b = lefD l b := by unfold lefK; rw [List.take_length]
theorem bst_in (l : List ByteArray) (k : Nat) (hk : k ≤ l.length) : 0 ≤ (bstD l k).2 ∧ (bstD l k).2 ≤ (l.length : Nat) := by
  rcases bstD_ok l k hk with ⟨_, e⟩ | ⟨_, e, _⟩
  · rw [e]; simp
  · rw [e]; exact ctB_in l _
theorem toL_eq {a b : ByteArray} : a.toList = b.toList ↔ a = b := by
  constructor
  · intro h
    cases a with
    | mk a => cases b with
      | mk b =>
        rw [ByteArray.toList_eq, ByteArray.toList_eq] at h
        simp at h
        rw [h]
  · rintro rfl; rfl
theorem toL_beq (a b : ByteArray) : (a.toList == b.toList) = decide (a = b) := by
  by_cases h : a = b
  · subst h; simp
  · rw [decide_eq_false h, beq_eq_false_iff_ne]
    exact fun e => h (toL_eq.1 e)
theorem str_cells {w : World} {B g c : Nat} {M : List ByteArray} (h : w.ownsRow B 9 1 (.slice (some ⟨g, 0, none⟩) M.length c) M.length (M.flatMap strC)) (j : Nat) (hj : j < M.length) : w.cell? ⟨g, j, none⟩ = some (.string M[j]) := by
  have := own_cellT (j := j * 1 + 0) h (flat_at (f := strC) (sz := 1) strC_len M j hj 0 (by omega))
  simpa using this
theorem own_empty (w : World) (e : TypeId) {sz B : Nat} (hB : B = w.heap.size) : (w.alloc (.cells #[] e)).ownsRow B e sz (.slice (some ⟨B, 0, none⟩) 0 0) 0 [] := by
  subst hB
  refine ⟨by simp, .inr ⟨w.heap.size, 0, #[], rfl, Nat.le_refl _, heap_alloc_new w _, Nat.le_refl _, by unfold maxLen; omega, by simp, by simp⟩⟩
theorem own_upT1 {w : World} {B B' : Nat} {e : TypeId} {sz n : Nat} {v : Value} {xs : List Value} (h : w.ownsRow B e sz v n xs) (hB : B' ≤ B) : w.ownsRow B' e sz v n xs := by
  refine ⟨h.1, ?_⟩
  rcases h.2 with h1 | ⟨g, cap, cur, h1, h2, rest⟩
  · exact .inl h1
  · exact .inr ⟨g, cap, cur, h1, Nat.le_trans hB h2, rest⟩
theorem own_stT {w w' : World} {B : Nat} {e : TypeId} {sz n : Nat} {v : Value} {xs : List Value} (h : w.ownsRow B e sz v n xs) (hb : Below w.heap.size w w') : w'.ownsRow B e sz v n xs := by
  refine ⟨h.1, ?_⟩
  rcases h.2 with h1 | ⟨g, cap, cur, h1, h2, h3, rest⟩
  · exact .inl h1
  · exact .inr ⟨g, cap, cur, h1, h2, (hb.block g (blk_lt h3)).trans h3, rest⟩
/-- The document's state: what is told, and what is left. -/
structure CtI (H : Nat) (w : World) (R : List Srw) (N : Nat) (vo vl : Value) (O : List Srw) (M : List ByteArray) (wr : World) : Prop where
  out : ∃ a c, vo = .slice a O.length c ∧ wr.ownsRow H 68 2 vo O.length (O.flatMap encSrw)
  lef : ∃ a c, vl = .slice a M.length c ∧ wr.ownsRow H 9 1 vl M.length (M.flatMap strC)
  all : O ++ cntF M = R
  len : O.length + M.length ≤ N
  bl : Below H w wr
set_option maxRecDepth 100000 in
set_option maxHeartbeats 4000000 in
theorem rcount_any (v : Value) (K : List ByteArray) (w : World) (hv : RdS w v K) (hz : ∀ s ∈ K, s.size ≤ maxLen) (hl : K.length ≤ 1000) :
    Calls Try.prog 37 #[v] w fun e w' => ∃ u, e = .returned u ∧ w'.ownsRow w.heap.size 68 2 u (cntF K).length ((cntF K).flatMap encSrw) ∧ Below w.heap.size w w' := by
  have HV := Kp.mk hv
  obtain ⟨a, c, rfl, hc1, hc2, -⟩ := hv
  clear hz hc1 hc2
  have HLE := Kp.mk hl
  clear hl
  go_enter Try.func37, Try.ntmps37
  have HA := Kp.mk (((Below.refl w.heap.size w).alloc (Nat.le_refl _) (.cells #[] 68)).alloc (by simp) (.cells #[] 9))
  have HO1 := Kp.mk (show ((w.alloc (.cells #[] 68)).alloc (.cells #[] 9)).ownsRow (w.heap.size + 1) 9 1 (.slice (some ⟨w.heap.size + 1, 0, none⟩) 0 0) 0 [] from own_empty _ _ (by simp))
  have HO0 := Kp.mk (show ((w.alloc (.cells #[] 68)).alloc (.cells #[] 9)).ownsRow w.heap.size 68 2 (.slice (some ⟨w.heap.size, 0, none⟩) 0 0) 0 [] from (own_empty _ _ rfl).alloc _)
  go_wp2_with (first
    | (at_builtin; refine app_rdl strC_len strC_one rfl _ _ _ _ rfl Try.underlying61 _ Try.infoSH rfl (by omega) (w.heap.size + 1) (.slice (some ⟨w.heap.size + 1, 0, none⟩) 0 0) 0 _ rfl HO1.out _ rfl K (HV.out.below HA.out) (by have := HLE.out; omega) (by have := HLE.out; unfold maxLen; omega) (by simp) ?_; intro v1 w1 h1 h2; have G1 := Kp.mk h1; have G2 := Kp.mk h2; clear h1 h2)
    | fail)
  have HO2 := Kp.mk (show w1.ownsRow w.heap.size 68 2 (.slice (some ⟨w.heap.size, 0, none⟩) 0 0) 0 [] from HO0.out.kept G2.out (.inr (by simp [Value.ownBlock])))
  have HI := Kp.mk (show CtI w.heap.size w (cntF K) K.length (.slice (some ⟨w.heap.size, 0, none⟩) 0 0) v1 [] K w1 from
    ⟨⟨_, _, rfl, HO2.out⟩, by have h := own_upT1 G1.out (Nat.le_succ w.heap.size); rw [Nat.zero_add] at h; obtain ⟨a1, c1, rfl⟩ := own_lenT h; exact ⟨a1, c1, rfl, h⟩, rfl, by simp, HA.out.grown G2.out (by simp; omega) (fun k hk => by simp [Value.ownBlock] at hk; omega)⟩)
  have hv1 : ∃ a1 c1, v1 = .slice a1 K.length c1 := by have h := G1.out; rw [Nat.zero_add] at h; exact own_lenT h
  obtain ⟨a1, c1, rfl⟩ := hv1
  clear HO0 HO1 HO2 HA G1 G2
  go_loopw [3, 4] (fun vo vl wr => ∃ O M, CtI w.heap.size w (cntF K) K.length vo vl O M wr) (fun _ vl _ => match vl with | .slice _ n _ => n | _ => 0)
  case atStart => exact ⟨[], K, HI.out⟩
  case round =>
    obtain ⟨O, M, hI⟩ := hrel
    obtain ⟨wo, rfl⟩ : ∃ wo : World, wo = wr := ⟨_, rfl⟩
    obtain ⟨ao, co, rfl, ho⟩ := hI.out
    obtain ⟨al, cl, rfl, hl⟩ := hI.lef
    have HO := Kp.mk ho
    have HL := Kp.mk hl
    have HC := Kp.mk hI
    have hbl := hI.bl.size
    have hln := hI.len
    have hkl := HLE.out
    clear ho hl hI
    by_cases hM : 0 < M.length
    · obtain ⟨g, rfl⟩ := own_formT HL.out hM
      have hgl := HL.out.lt g rfl
      go_wp2_with fail
      go_loopw [5, 6, 7] (fun vb vm vi wn => ∃ i : Nat, i ≤ M.length ∧ vi = .int .i64 i ∧ vb = .string (bstD M i).1 ∧ vm = .int .i64 (bstD M i).2 ∧ Below wo.heap.size wo wn) (fun _ _ vi _ => M.length - (intOf vi).toNat)
      case atStart => exact ⟨0, Nat.zero_le _, rfl, rfl, rfl, Below.refl _ _⟩
      case round =>
        obtain ⟨i, hi, rfl, rfl, rfl, hbn⟩ := hrel
        have HBN := Kp.mk hbn
        have HLn := Kp.mk (own_stT HL.out hbn)
        have hbi := bst_in M i hi
        clear hbn
        by_cases hlt : i < M.length
        · have c0 := str_cells HLn.out i hlt
          have HS := Kp.mk (bstD_succ M i hlt)
          have HCA := Kp.mk (ctK_all M M[i])
          have hci := ctB_in M M[i]
          unfold stpD at HS
          generalize hx : M[i] = x at *
          have q1 : (i : Int) < (M.length : Int) := by omega
          have q0 : (0 : Int) ≤ (i : Int) := by omega
          go_wp2_with fail
          go_loopw [8, 9] (fun vn vk wk => ∃ k : Nat, k ≤ M.length ∧ vk = .int .i64 k ∧ vn = .int .i64 (ctK M k x) ∧ Below wo.heap.size wo wk) (fun _ vk _ => M.length - (intOf vk).toNat)
          case atStart => exact ⟨0, Nat.zero_le _, rfl, rfl, HBN.out⟩
          case round =>
            obtain ⟨k, hk, rfl, rfl, hbk⟩ := hrel
            have HBK := Kp.mk hbk
            have HLk := Kp.mk (own_stT HL.out hbk)
            clear hbk
            have hck := ctK_le M k x
            have d0 := str_cells HLk.out i hlt
            rw [hx] at d0
            by_cases hlk : k < M.length
            · have d1 := str_cells HLk.out k hlk
              have HK := Kp.mk (ctK_succ M k x hlk)
              generalize M[k] = y at *
              have q3 : (k : Int) < (M.length : Int) := by omega
              have q2 : (0 : Int) ≤ (k : Int) := by omega
              by_cases hy : y = x
              · have HK2 := Kp.mk (HK.out.trans (by rw [if_pos hy]))
                have t1 : y.toList = x.toList := toL_eq.2 hy
                clear hy
                go_wp2_with fail
                go_quiet (fail)
                have HBQ := Kp.mk (HBK.out.trans ((gdrewN wr nq).mono HBK.out.size))
                go_wp2_with fail
                go_roundw
                case rel => exact ⟨k + 1, by omega, by go_num, by rw [HK2.out]; go_num, HBQ.out⟩
                case measure => simp [intOf]; omega
              · have HK2 := Kp.mk (HK.out.trans (by rw [if_neg hy]))
                have t1 : (y.toList == x.toList) = false := by rw [toL_beq, decide_eq_false hy]
                clear hy
                go_wp2_with fail
                go_quiet (fail)
                have HBQ := Kp.mk (HBK.out.trans ((gdrewN wr nq).mono HBK.out.size))
                go_wp2_with fail
                go_roundw
                case rel => exact ⟨k + 1, by omega, by go_num, by rw [HK2.out]; rfl, HBQ.out⟩
                case measure => simp [intOf]; omega
            · have hkn : k = M.length := by omega
              subst hkn
              have e2 := HCA.out
              have HBM := Kp.mk HBK.out
              generalize ctK M M.length x = n at *
              rw [← e2] at HS hci
              clear HCA hk hlk hck HBK
              have HE := Kp.mk e2
              clear e2
              generalize hb : bstD M i = b at *
              obtain ⟨bx, bn⟩ := b
              dsimp only at hbi HS ⊢
              have HBB := Kp.mk hb
              clear hb
              have hcase : (bn < (n : Int)) ∨ (bn = (n : Int) ∧ bsL x bx = true) ∨ (bn = (n : Int) ∧ bsL x bx = false) ∨ ((n : Int) < bn) := by
                rcases Int.lt_trichotomy bn n with h | h | h
                · exact .inl h
                · cases hq : bsL x bx
                  · exact .inr (.inr (.inl ⟨h, rfl⟩))
                  · exact .inr (.inl ⟨h, rfl⟩)
                · exact .inr (.inr (.inr h))
              rcases hcase with h | ⟨h, hq⟩ | ⟨h, hq⟩ | h
              · have HS2 := Kp.mk (HS.out.trans (if_pos ((rkL_iff _ _).2 (.inl h))))
                clear HS
                go_wp2_with fail
                go_roundw
                case rel => exact ⟨i + 1, by omega, by go_num, by rw [HS2.out], by rw [HS2.out], HBM.out⟩
                case measure => simp [intOf]; omega
              · have HS2 := Kp.mk (HS.out.trans (if_pos ((rkL_iff _ _).2 (.inr ⟨h.symm, hq⟩))))
                have t1 : Op.bytesLess x.toList bx.toList = true := hq
                clear HS hq
                subst h
                go_wp2_with fail
                go_roundw
                case rel => exact ⟨i + 1, by omega, by go_num, by rw [HS2.out], by rw [HS2.out], HBM.out⟩
                case measure => simp [intOf]; omega
              · have HS2 := Kp.mk (HS.out.trans (if_neg (fun e => by
                  rcases (rkL_iff _ _).1 e with e | ⟨_, e⟩
                  · dsimp only at e; omega
                  · dsimp only at e; rw [hq] at e; cases e)))
                have t1 : Op.bytesLess x.toList bx.toList = false := hq
                clear HS hq
                subst h
                go_wp2_with fail
                go_roundw
                case rel => exact ⟨i + 1, by omega, by go_num, by rw [HS2.out], by rw [HS2.out], HBM.out⟩
                case measure => simp [intOf]; omega
              · have HS2 := Kp.mk (HS.out.trans (if_neg (fun e => by
                  rcases (rkL_iff _ _).1 e with e | ⟨e, _⟩
                  · dsimp only at e; omega
                  · dsimp only at e; omega)))
                clear HS
                go_wp2_with fail
                go_roundw
                case rel => exact ⟨i + 1, by omega, by go_num, by rw [HS2.out], by rw [HS2.out], HBM.out⟩
                case measure => simp [intOf]; omega
        · have hin : i = M.length := by omega
          subst hin
          have HBE := Kp.mk (bstD_ok M M.length (Nat.le_refl _))
          have HCC := Kp.mk (cntF_cons hM)
          clear hi
          generalize hb : bstD M M.length = b at *
          obtain ⟨bx, bn⟩ := b
          dsimp only at hbi HBE HCC ⊢
          clear hb
          have HZN := Kp.mk hbi
          clear hbi hlt
          have HON := Kp.mk (own_stT HO.out HBN.out)
          have HX0 := Kp.mk (show (wr.alloc (.cells #[] 9)).ownsRow wr.heap.size 9 1 (.slice (some ⟨wr.heap.size, 0, none⟩) 0 0) 0 [] from own_empty _ _ rfl)
          have HXB := Kp.mk ((Below.refl wr.heap.size wr).alloc (Nat.le_refl _) (.cells #[] 9))
          obtain ⟨wq, rfl⟩ : ∃ wq : World, wq = wr := ⟨_, rfl⟩
          go_wp2_with fail
          go_loopw [10, 11] (fun vr vj wj => ∃ (j cr : Nat) (ar : Option Addr), j ≤ M.length ∧ vj = .int .i64 j ∧ vr = .slice ar (lefK M j bx).length cr ∧ wj.ownsRow wq.heap.size 9 1 vr (lefK M j bx).length ((lefK M j bx).flatMap strC) ∧ Below wq.heap.size wq wj) (fun _ vj _ => M.length - (intOf vj).toNat)
          case atStart => exact ⟨0, 0, _, Nat.zero_le _, rfl, rfl, HX0.out, HXB.out⟩
          case round =>
            obtain ⟨j, cr, ar, hj, rfl, rfl, hrr, hbj⟩ := hrel
            have HRR := Kp.mk hrr
            have HBJ := Kp.mk hbj
            have HLj := Kp.mk (own_stT HLn.out hbj)
            have hsj := hbj.size
            clear hrr hbj
            by_cases hlj : j < M.length
            · have d0 := str_cells HLj.out j hlj
              have HK := Kp.mk (lefK_succ M j bx hlj)
              have hkl2 := lefK_len M j bx
              generalize M[j] = y at *
              generalize hLK : lefK M j bx = LK at *
              have q3 : (j : Int) < (M.length : Int) := by omega
              have q2 : (0 : Int) ≤ (j : Int) := by omega
              by_cases hy : y = bx
              · have HK2 := Kp.mk (HK.out.trans (by rw [if_pos hy, List.append_nil]))
                have t1 : y.toList = bx.toList := toL_eq.2 hy
                clear hy
                go_wp2_with fail
                go_roundw
                case rel => exact ⟨j + 1, cr, ar, by omega, by go_num, by rw [HK2.out], by rw [HK2.out]; exact HRR.out, HBJ.out⟩
                case measure => simp [intOf]; omega
              · have HK2 := Kp.mk (HK.out.trans (by rw [if_neg hy]))
                have t1 : (y.toList == bx.toList) = false := by rw [toL_beq, decide_eq_false hy]
                have hlen : (LK.length + 1) * 16 ≤ 140737488355328 := by omega
                have hmx : LK.length + 1 ≤ maxLen := by unfold maxLen; omega
                clear hy
                go_wp2_with (first
                  | (at_builtin; refine app_any rfl _ _ _ _ rfl Try.underlying61 _ _ _ Try.infoSH rfl (by omega) wq.heap.size _ _ _ rfl HRR.out #[.string y] rfl (fun u hu => by simp at hu; subst hu; rfl) _ rfl rfl hlen hmx hsj ?_; intro g' cap' w' k1 k2 k3; have K1 := Kp.mk k1; have K2 := Kp.mk (show (wr.alloc (.cells #[.string y] 9)).grownBy w' (Value.slice ar LK.length cr).ownBlock from k2); clear k1 k2 k3)
                  | fail)
                go_roundw
                case rel =>
                  refine ⟨j + 1, _, _, by omega, by go_num, by rw [HK2.out, List.length_append]; rfl, ?_, ?_⟩
                  · rw [HK2.out, List.length_append, List.flatMap_append]
                    exact K1.out
                  · exact (HBJ.out.alloc hsj _).grown K2.out (by simp; omega) (fun k hk => (HRR.out.lt k hk).1)
                case measure => simp [intOf]; omega
            · have hjn : j = M.length := by omega
              subst hjn
              have HLA := Kp.mk (lefK_all M bx)
              generalize lefK M M.length bx = LK at *
              have hLK := HLA.out
              subst hLK
              have HOX := Kp.mk (own_stT HON.out HBJ.out)
              have HRL := Kp.mk (fun k (e : (Value.slice ar (lefD M bx).length cr).ownBlock = some k) => (HRR.out.lt k e))
              have HLE2 := Kp.mk (show (lefD M bx).length < M.length by
                rcases HBE.out with ⟨h9, _⟩ | ⟨h1, _⟩
                · omega
                · exact lefD_len h1)
              have hlen : (O.length + 1) * 24 ≤ 140737488355328 := by omega
              have hmx : O.length + 1 ≤ maxLen := by unfold maxLen; omega
              have hBz : w.heap.size ≤ wr.heap.size := by have := HBN.out.size; omega
              have HBZ := Kp.mk (HC.out.bl.trans ((HBN.out.trans (HBJ.out.mono HBN.out.size)).mono hbl))
              have HOL := Kp.mk (fun k (e : (Value.slice ao O.length co).ownBlock = some k) => (HOX.out.lt k e))
              have HOW := Kp.mk (show ∀ k, (Value.slice ao O.length co).ownBlock = some k → k < wq.heap.size from fun k e => (HON.out.lt k e).2)
              clear HBE HLA
              go_wp2_with (first
                | (at_builtin; refine app_any rfl _ _ _ _ rfl Try.underlying36 _ _ _ Try.infoRd rfl (by omega) w.heap.size _ _ _ rfl HOX.out #[.string bx, .int .i64 bn] rfl (fun u hu => by simp at hu; rcases hu with rfl | rfl <;> rfl) _ rfl rfl hlen hmx hBz ?_; intro g' cap' w' k1 k2 k3; have K1 := Kp.mk k1; have K2 := Kp.mk (show (wr.alloc (.cells #[.string bx, .int .i64 bn] 68)).grownBy w' (Value.slice ao O.length co).ownBlock from k2); clear k1 k2 k3)
                | fail)
              go_roundw
              case rel =>
                refine ⟨O ++ [(bx, bn)], lefD M bx, ⟨⟨_, _, by rw [List.length_append]; rfl, ?_⟩, ⟨_, _, rfl, ?_⟩, ?_, ?_, ?_⟩⟩
                · rw [List.length_append, List.flatMap_append]
                  exact K1.out
                · refine own_upT1 ((HRR.out.alloc _).kept K2.out ?_) (by have := HBN.out.size; omega)
                  cases hq : (Value.slice ar (lefD M bx).length cr).ownBlock with
                  | none => exact .inl rfl
                  | some k =>
                    refine .inr fun e => ?_
                    have h1 := (HRL.out k hq).1
                    have h2 := HOW.out k e.symm
                    omega
                · rw [List.append_assoc]
                  have := HC.out.all
                  rw [HCC.out] at this
                  exact this
                · rw [List.length_append]; have := HLE2.out; simp; omega
                · exact (HBZ.out.alloc hBz _).grown K2.out (by simp; omega) (fun k hk => (HOL.out k hk).1)
              case measure => have := HLE2.out; simpa using this
    · have hM0 : M.length = 0 := by omega
      have HM0 := Kp.mk (cntF_nil hM0)
      go_wp2_with fail
      go_ret
      have h := HC.out.all
      rw [HM0.out, List.append_nil] at h
      exact ⟨_, rfl, by rw [← h]; exact HO.out, HC.out.bl⟩
end Go.Proofs.Ytocnecbhpofdgaa
