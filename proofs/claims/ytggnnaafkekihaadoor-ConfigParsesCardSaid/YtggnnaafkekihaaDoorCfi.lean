/- Settings (layer 13): what stands between blanks, plain; what both Parse tell (bin/mkcfi.py, out of Lea). -/
import Derived.Test.YtggnnaafkekihaaDoorCff
import Derived.Shelf.Strings.SplitCore
import Derived.Shelf.Strings.Search3
import Derived.Shelf.Strings.Count
import Derived.Lib.SplitLaws
namespace Go.Proofs
open Go.Shelf Go.RowKit Go.Lib
set_option maxHeartbeats 1000000 in
theorem split_oneW {P : Program} {ρ : Ren} (L : Lays.n146 P ρ) (hi9 : (P.info? (ρ.t 9)).map (fun i => (i.zero, i.size, i.bytes)) = some (some (.string ByteArray.empty), 1, 16)) (s : ByteArray) (c : UInt8) (w : World)
    (hs : s.size < 4294967281) :
    Calls P (ρ.f 146) #[.string s, .string ⟨#[c]⟩] w fun e w' =>
      e = .returned (.slice (some ⟨w.heap.size, 0, none⟩) (Lib.countB s ⟨#[c]⟩ + 1) (Lib.countB s ⟨#[c]⟩ + 1)) ∧ w' = w.alloc (.cells ((Lib.splitB ⟨#[c]⟩ 0 (Lib.countB s ⟨#[c]⟩) s).map Value.string).toArray (ρ.t 9)) := by
  have h1 : 1 ≤ (⟨#[c]⟩ : ByteArray).size := Nat.le_refl 1
  have hle := Lib.countB_le ⟨#[c]⟩ h1 s.size s (Nat.le_refl _)
  have hlen := Lib.splitB_all ⟨#[c]⟩ h1 0 _ s rfl
  have hC : Calls P (ρ.f 138) #[.string s, .string ⟨#[c]⟩] w fun e w' => e = .returned (.int .i64 (Lib.countB s ⟨#[c]⟩)) ∧ w' = w := by
    refine (Any.strings_Count_one { L with } s c w).mono fun e w' ⟨he, hw⟩ => ⟨?_, hw⟩
    rw [he]
    show _ = Ending.returned (Value.int .i64 ((Lib.count s.data.toList [c] : Nat) : Int))
    rw [Lib.count_one]
    rfl
  have hI : ∀ (x : ByteArray) (cs : Array Value), x.size ≤ s.size → Calls P (ρ.f 143) #[.string x, .string ⟨#[c]⟩] (w.alloc (.cells cs (ρ.t 9))) fun e w' => e = .returned (.int .i64 (Lib.indexB x ⟨#[c]⟩)) ∧ w' = w.alloc (.cells cs (ρ.t 9)) := fun x cs _ =>
    (Any.strings_Index_one { L with } x c _).mono fun e w' ⟨he, hw⟩ => ⟨by rw [he]; show _ = Ending.returned (Value.int .i64 (Lib.index x.data.toList [c])); rw [Lib.index_one], hw⟩
  have g := Any.strings_genSplit_core { L with } hi9 s ⟨#[c]⟩ 0 (-1) (Lib.countB s ⟨#[c]⟩ + 1) w hs h1 (Nat.zero_le _) hI hC (by decide) (by decide) (by rw [if_pos (by decide)]; omega)
  rw [Nat.add_sub_cancel, hlen] at g
  have e2 : Lib.cellsOf (Lib.splitB ⟨#[c]⟩ 0 (Lib.countB s ⟨#[c]⟩) s) (Lib.countB s ⟨#[c]⟩ + 1) = ((Lib.splitB ⟨#[c]⟩ 0 (Lib.countB s ⟨#[c]⟩) s).map Value.string).toArray := by rw [← hlen]; exact Lib.cellsOf_full _
  rw [e2] at g
  have t3 := L.t3; have t9 := L.t9; have t31 := L.t31
  have a3 := L.a3; have a9 := L.a9; have a31 := L.a31
  have z3 := L.z3; have v3 := L.v3; have z9 := L.z9; have v9 := L.v9; have z31 := L.z31; have v31 := L.v31
  have e221 : ∀ args w, (callFunc (ρ.f 221) args).run P w = .ok (.enter (ρ.f 221) args) w := enters_of L.f221 (by kernel_rfl) rfl
  go_enter L.f146, Body.n146_ntmps ρ
  go_wp2_with (go_at_fn (ρ.f 221); refine g.mono ?_; rintro e w' ⟨rfl, hw⟩; rw [hw])
  go_ret
  exact ⟨rfl, rfl⟩
end Go.Proofs
namespace Go.Proofs.YtggnnaafkekihaaDoor
open Go.RowKit
set_option linter.unusedVariables false
set_option linter.unusedSimpArgs false

/-- The parts of octets between blanks; cur has begun. -/
def wdl (cur : List UInt8) : List UInt8 → List (List UInt8)
  | [] => [cur]
  | c :: l => if c = 32 then cur :: wdl [] l else wdl (cur ++ [c]) l
theorem wdl_hit : ∀ (l cur : List UInt8) (i : Nat), Lib.index l [32] = i → wdl cur l = (cur ++ l.take i) :: wdl [] (l.drop (i + 1))
  | [], cur, i, h => by
    simp [Lib.index] at h
  | c :: l, cur, i, h => by
    rw [Lib.index] at h
    by_cases hc : c = 32
    · subst hc
      simp [List.isPrefixOf] at h
      obtain rfl : i = 0 := by omega
      rw [wdl, if_pos rfl]; simp
    · have hp : ([32] : List UInt8).isPrefixOf (c :: l) = false := by simp [List.isPrefixOf, Ne.symm hc]
      rw [if_neg (by rw [hp]; decide)] at h
      split at h
      · omega
      · have hge := Lib.index_ge l [32]
        obtain ⟨j, hj⟩ : ∃ j : Nat, Lib.index l [32] = j := ⟨(Lib.index l [32]).toNat, by rename_i q; rw [beq_iff_eq] at q; omega⟩
        obtain rfl : i = j + 1 := by omega
        rw [wdl, if_neg hc, wdl_hit l (cur ++ [c]) j hj]
        simp
theorem wdl_miss : ∀ (l cur : List UInt8), Lib.index l [32] = -1 → wdl cur l = [cur ++ l]
  | [], cur, h => by simp [wdl]
  | c :: l, cur, h => by
    rw [Lib.index] at h
    by_cases hc : c = 32
    · subst hc
      simp [List.isPrefixOf] at h
    · have hp : ([32] : List UInt8).isPrefixOf (c :: l) = false := by simp [List.isPrefixOf, Ne.symm hc]
      rw [if_neg (by rw [hp]; decide)] at h
      split at h
      · rename_i q
        rw [wdl, if_neg hc, wdl_miss l (cur ++ [c]) (beq_iff_eq.1 q)]
        simp
      · have hge := Lib.index_ge l [32]
        rename_i q
        rw [beq_iff_eq] at q
        omega
theorem splitK_wdl : ∀ (k : Nat) (l : List UInt8), Lib.count l [32] = k → Lib.splitK [32] 0 k l = wdl [] l := by
  intro k
  induction k with
  | zero =>
    intro l h
    by_cases hm : Lib.index l [32] = -1
    · rw [wdl_miss l [] hm]; rfl
    · have hge := Lib.index_ge l [32]
      obtain ⟨j, hj⟩ : ∃ j : Nat, Lib.index l [32] = j := ⟨(Lib.index l [32]).toNat, by omega⟩
      rw [Lib.count_hit (by simp) hj] at h
      omega
  | succ k ih =>
    intro l h
    by_cases hm : Lib.index l [32] = -1
    · rw [Lib.count_miss hm] at h; omega
    · have hge := Lib.index_ge l [32]
      obtain ⟨j, hj⟩ : ∃ j : Nat, Lib.index l [32] = j := ⟨(Lib.index l [32]).toNat, by omega⟩
      rw [Lib.count_hit (by simp) hj] at h
      have h2 : Lib.count (l.drop (j + 1)) [32] = k := by have e : ([32] : List UInt8).length = 1 := rfl; rw [e] at h; omega
      rw [wdl_hit l [] j hj, Lib.splitK, if_neg (by rw [beq_iff_eq]; exact hm), hj]
      have e : (j : Int).toNat = j := by omega
      rw [e]
      show _ :: Lib.splitK [32] 0 k (l.drop (j + 1)) = _
      rw [ih _ h2]
      simp
/-- .. as a state by index: where the part began, the parts before it. -/
def wdAt (s : ByteArray) : Nat → Nat × List ByteArray
  | 0 => (0, [])
  | k + 1 => if bt s k = 32 then (k + 1, (wdAt s k).2 ++ [s.extract (wdAt s k).1 k]) else wdAt s k
def wdK (s : ByteArray) : List ByteArray := (wdAt s s.size).2 ++ [s.extract (wdAt s s.size).1 s.size]
theorem wdAt_fr (s : ByteArray) : ∀ k, (wdAt s k).1 ≤ k
  | 0 => Nat.le_refl 0
  | k + 1 => by
    unfold wdAt
    split
    · exact Nat.le_refl _
    · exact Nat.le_succ_of_le (wdAt_fr s k)
theorem wdAt_len (s : ByteArray) : ∀ k, (wdAt s k).2.length ≤ k
  | 0 => Nat.le_refl 0
  | k + 1 => by
    unfold wdAt
    split
    · simp; exact wdAt_len s k
    · exact Nat.le_succ_of_le (wdAt_len s k)
theorem wdAt_hit {s : ByteArray} {k : Nat} (h : bt s k = 32) : wdAt s (k + 1) = (k + 1, (wdAt s k).2 ++ [s.extract (wdAt s k).1 k]) := by rw [wdAt, if_pos h]
theorem wdAt_miss {s : ByteArray} {k : Nat} (h : bt s k ≠ 32) : wdAt s (k + 1) = wdAt s k := by rw [wdAt, if_neg h]
theorem ext_listW (s : ByteArray) (a b : Nat) : (s.extract a b).data.toList = (s.data.toList.take b).drop a := by
  rw [Lib.extract_data, List.drop_take]
theorem wdAt_wdl (s : ByteArray) : ∀ k, k ≤ s.size → wdl [] s.data.toList = (wdAt s k).2.map (·.data.toList) ++ wdl (s.extract (wdAt s k).1 k).data.toList (s.data.toList.drop k)
  | 0, _ => by
    have e : (s.extract (wdAt s 0).1 0).data.toList = [] := by rw [ext_listW]; simp
    rw [e]; rfl
  | k + 1, h => by
    have ih := wdAt_wdl s k (by omega)
    have hk : k < s.data.toList.length := by rw [← ba_size]; omega
    rw [List.drop_eq_getElem_cons hk, wdl] at ih
    have hb : (s.data.toList[k]).toNat = bt s k := bt_list s k (by omega)
    have hfr := wdAt_fr s k
    by_cases hc : bt s k = 32
    · have hc2 : s.data.toList[k] = 32 := by
        apply UInt8.toNat_inj.1; rw [hb, hc]; rfl
      rw [if_pos hc2] at ih
      rw [wdAt_hit hc, ih]
      have e : (s.extract (k + 1) (k + 1)).data.toList = [] := by
        rw [ext_listW]
        exact List.drop_eq_nil_of_le (by rw [List.length_take]; omega)
      dsimp only
      rw [e, List.map_append, List.append_assoc]
      rfl
    · have hc2 : ¬ s.data.toList[k] = 32 := fun e => hc (by rw [← hb, e]; rfl)
      rw [if_neg hc2] at ih
      rw [wdAt_miss hc, ih]
      congr 2
      rw [ext_listW, ext_listW, List.take_succ_eq_append_getElem hk, List.drop_append_of_le_length (by rw [List.length_take]; omega)]
theorem wdK_wdl (s : ByteArray) : (wdK s).map (·.data.toList) = wdl [] s.data.toList := by
  have h := wdAt_wdl s s.size (Nat.le_refl _)
  have e : s.data.toList.drop s.size = [] := List.drop_eq_nil_of_le (by rw [← ba_size]; omega)
  rw [e, wdl] at h
  rw [h]
  unfold wdK
  rw [List.map_append]
  rfl
theorem map_injW {α β : Type} {f : α → β} (hf : ∀ a b, f a = f b → a = b) : ∀ {l m : List α}, l.map f = m.map f → l = m
  | [], [], _ => rfl
  | [], _ :: _, h => by simp at h
  | _ :: _, [], h => by simp at h
  | a :: l, b :: m, h => by
    rw [List.map_cons, List.map_cons, List.cons.injEq] at h
    rw [hf a b h.1, map_injW hf h.2]
def wd32 : ByteArray := ⟨#[32]⟩
theorem split_wdK (s : ByteArray) : Lib.splitB wd32 0 (Lib.countB s wd32) s = wdK s := by
  refine map_injW (f := fun b : ByteArray => b.data.toList) (fun a b h => ba_ext h) ?_
  rw [wdK_wdl, Lib.splitB_data]
  exact splitK_wdl _ _ rfl
theorem wdK_len (s : ByteArray) : (wdK s).length ≤ s.size + 1 := by
  unfold wdK
  rw [List.length_append]
  have := wdAt_len s s.size
  simp
  omega
theorem wdAt_mem {s : ByteArray} : ∀ {k : Nat} {x : ByteArray}, x ∈ (wdAt s k).2 → x.size ≤ s.size
  | 0, x, h => by cases h
  | k + 1, x, h => by
    unfold wdAt at h
    split at h
    · rcases List.mem_append.1 h with h | h
      · exact wdAt_mem h
      · simp at h; subst h; rw [ByteArray.size_extract]; omega
    · exact wdAt_mem h
theorem wdK_mem {s x : ByteArray} (h : x ∈ wdK s) : x.size ≤ s.size := by
  unfold wdK at h
  rcases List.mem_append.1 h with h | h
  · exact wdAt_mem h
  · simp at h; subst h; rw [ByteArray.size_extract]; omega
/-- A text without a blank. -/
theorem wdl_plain : ∀ (l cur : List UInt8), (∀ c ∈ l, c ≠ 32) → wdl cur l = [cur ++ l]
  | [], cur, _ => by simp [wdl]
  | c :: l, cur, h => by rw [wdl, if_neg (h c (by simp)), wdl_plain l _ (fun d hd => h d (by simp [hd]))]; simp
theorem wdK_plain {s : ByteArray} (h : ∀ c ∈ s.data.toList, c ≠ 32) : wdK s = [s] := by
  refine map_injW (f := fun b : ByteArray => b.data.toList) (fun a b h => ba_ext h) ?_
  rw [wdK_wdl, wdl_plain _ _ h]; rfl
/-! ### Joined and split -/
theorem wdl_app : ∀ (a cur l : List UInt8), (∀ c ∈ a, c ≠ 32) → wdl cur (a ++ l) = wdl (cur ++ a) l
  | [], cur, l, _ => by simp
  | c :: a, cur, l, h => by
    rw [List.cons_append, wdl, if_neg (h c (by simp)), wdl_app a _ l (fun d hd => h d (by simp [hd]))]
    simp
theorem wdl_join : ∀ (W : List (List UInt8)) (a cur : List UInt8), (∀ c ∈ a, c ≠ 32) → (∀ x ∈ W, ∀ c ∈ x, c ≠ 32) → wdl cur (a ++ Lib.joinTail [32] W) = (cur ++ a) :: W
  | [], a, cur, h, _ => by
    have e : Lib.joinTail [32] ([] : List (List UInt8)) = [] := by simp [Lib.joinTail]
    rw [e, wdl_app a cur [] h, wdl]
  | b :: W, a, cur, h, hw => by
    have e : Lib.joinTail [32] (b :: W) = 32 :: (b ++ Lib.joinTail [32] W) := by simp [Lib.joinTail]
    rw [e, wdl_app a cur _ h, wdl, if_pos rfl, wdl_join W b [] (hw b (by simp)) (fun x hx => hw x (by simp [hx]))]
    rfl
theorem wdl_mem : ∀ (l cur : List UInt8), (∀ c ∈ cur, c ≠ 32) → ∀ x ∈ wdl cur l, ∀ c ∈ x, c ≠ 32
  | [], cur, h, x, hx, c, hc => by
    rw [wdl, List.mem_singleton] at hx
    subst hx
    exact h c hc
  | d :: l, cur, h, x, hx, c, hc => by
    rw [wdl] at hx
    split at hx
    · rcases List.mem_cons.1 hx with rfl | hx
      · exact h c hc
      · exact wdl_mem l [] (by simp) x hx c hc
    · rename_i hd
      exact wdl_mem l _ (fun e he => by
        rcases List.mem_append.1 he with he | he
        · exact h e he
        · rw [List.mem_singleton] at he; subst he; exact hd) x hx c hc
def noB (x : ByteArray) : Prop := ∀ c ∈ x.data.toList, c ≠ 32
theorem wdK_no {s x : ByteArray} (h : x ∈ wdK s) : noB x := fun c hc => wdl_mem s.data.toList [] (by simp) x.data.toList (by rw [← wdK_wdl]; exact List.mem_map.2 ⟨x, h, rfl⟩) c hc
theorem wdK_join {a : ByteArray} {W : List ByteArray} (ha : noB a) (hw : ∀ x ∈ W, noB x) : wdK (cfJ (a :: W)) = a :: W := by
  refine map_injW (f := fun b : ByteArray => b.data.toList) (fun a b h => ba_ext h) ?_
  rw [wdK_wdl]
  have e : (cfJ (a :: W)).data.toList = a.data.toList ++ Lib.joinTail [32] (W.map (·.data.toList)) := by
    unfold cfJ
    rw [List.map_cons, Lib.join_cons]
  rw [e, wdl_join (W.map (·.data.toList)) a.data.toList [] ha (fun x hx => by
    obtain ⟨y, hy, rfl⟩ := List.mem_map.1 hx
    exact hw y hy)]
  rfl
theorem cfTx_no (n : Int) : noB (cfTx n) := by
  intro c hc e
  subst e
  unfold cfTx ofL at hc
  simp only [List.toList_toArray] at hc
  unfold textL at hc
  have hd : ∀ m : Nat, (32 : UInt8) ∉ wdig 10 1 m := fun m hm => by
    have := wdig_ok 10 1 m (by omega) (by omega) 32 hm
    revert this
    decide
  split at hc
  · rcases List.mem_cons.1 hc with h | h
    · exact absurd h (by decide)
    · exact hd _ h
  · exact hd _ hc
/-! ### What both Parse tell, m the most a number is read as -/
def pW (s : ByteArray) (k : Nat) : ByteArray := (wdK s).getD k ⟨#[]⟩
def pA (s : ByteArray) : ByteArray := if pW s 1 = ⟨#[45]⟩ then ⟨#[]⟩ else pW s 1
def pL (m : Int) (s : ByteArray) : List Int := ((wdK s).drop 2).map fun x => numV 10 x m
def pOk (m : Int) (s : ByteArray) : Bool := decide ((wdK s).length = 18) && decide (cfT (pW s 0) (pA s) (pL m s) = s)
theorem numV_two (x : ByteArray) : numV 10 x 2147483647 = numV 10 x 1073741824 ∨ (1073741824 < numV 10 x 2147483647 ∧ numV 10 x 1073741824 = 0 ∧ 0 < valN 10 x.data.toList) := by
  unfold numV numE
  split
  · exact .inl rfl
  · split
    · exact .inl rfl
    · by_cases h1 : (valN 10 x.data.toList : Int) ≤ 2147483647
      · by_cases h2 : (valN 10 x.data.toList : Int) ≤ 1073741824
        · rw [if_pos h1, if_pos h2]; exact .inl rfl
        · rw [if_pos h1, if_neg h2]
          exact .inr ⟨by simp; omega, rfl, by omega⟩
      · rw [if_neg h1, if_neg (show ¬ (valN 10 x.data.toList : Int) ≤ 1073741824 by omega)]; exact .inl rfl
theorem cfTx_zero : valN 10 (cfTx 0).data.toList = 0 := by decide +kernel
theorem wdK_emp : (wdK ⟨#[]⟩).length = 1 := by decide +kernel
theorem pOk_words {m : Int} {s : ByteArray} (h : pOk m s = true) : (wdK s).length = 18 ∧ cfIn (pL m s) = true ∧ (wdK s).drop 2 = (pL m s).map cfTx := by
  unfold pOk at h
  rw [Bool.and_eq_true, decide_eq_true_eq, decide_eq_true_eq] at h
  obtain ⟨h1, h2⟩ := h
  have hne : s ≠ ⟨#[]⟩ := fun e => by rw [e, wdK_emp] at h1; omega
  have h3 : cfE (pW s 0) (pA s) (pL m s) = 0 ∧ cfJ (cfW (pW s 0) (pA s) (pL m s)) = s := by
    unfold cfT at h2
    split at h2
    · rename_i e; exact ⟨e, h2⟩
    · exact absurd h2.symm hne
  refine ⟨h1, cfE_zero h3.1, ?_⟩
  have n0 : noB (pW s 0) := by
    unfold pW
    rw [List.getD_eq_getElem?_getD, List.getElem?_eq_getElem (by omega)]
    exact wdK_no (List.getElem_mem _)
  have n1 : noB (cfAu (pA s)) := by
    have hw : noB (pW s 1) := by
      unfold pW
      rw [List.getD_eq_getElem?_getD, List.getElem?_eq_getElem (by omega)]
      exact wdK_no (List.getElem_mem _)
    have hm : noB ⟨#[45]⟩ := by
      intro c hc e
      subst e
      revert hc
      decide
    unfold cfAu
    split
    · exact hm
    · unfold pA
      split
      · intro c hc; simp at hc
      · exact hw
  have h4 := wdK_join (a := pW s 0) (W := cfAu (pA s) :: (pL m s).map cfTx) n0 (fun x hx => by
    rcases List.mem_cons.1 hx with rfl | hx
    · exact n1
    · obtain ⟨n, _, rfl⟩ := List.mem_map.1 hx
      exact cfTx_no n)
  have h5 : cfJ (pW s 0 :: cfAu (pA s) :: (pL m s).map cfTx) = s := h3.2
  rw [h5] at h4
  rw [h4]
  rfl
theorem p_same (s : ByteArray) : pOk 2147483647 s = pOk 1073741824 s ∧ (pOk 2147483647 s = true → pL 2147483647 s = pL 1073741824 s) := by
  by_cases hall : ∀ x ∈ (wdK s).drop 2, numV 10 x 2147483647 = numV 10 x 1073741824
  · have e : pL 2147483647 s = pL 1073741824 s := List.map_congr_left hall
    exact ⟨by unfold pOk; rw [e], fun _ => e⟩
  · have hx : ∃ x, x ∈ (wdK s).drop 2 ∧ numV 10 x 2147483647 ≠ numV 10 x 1073741824 := by
      apply Classical.byContradiction
      intro hn
      exact hall fun x hx => Classical.byContradiction fun he => hn ⟨x, hx, he⟩
    obtain ⟨x, hx, hne⟩ := hx
    obtain ⟨g1, g2, g3⟩ := (numV_two x).resolve_left hne
    obtain ⟨k, hk, hkx⟩ := List.getElem_of_mem hx
    have f1 : pOk 2147483647 s = false := by
      rw [Bool.eq_false_iff]
      intro h
      obtain ⟨h1, h2, h3⟩ := pOk_words h
      have hk2 : k < 16 := by rw [List.length_drop] at hk; omega
      have h4 := (cfIn_at h2 k hk2).2
      have h5 : (pL 2147483647 s).getD k 0 = numV 10 x 2147483647 := by
        unfold pL
        rw [List.getD_eq_getElem?_getD, List.getElem?_map, List.getElem?_eq_getElem hk, hkx]
        rfl
      rw [h5] at h4
      omega
    have f2 : pOk 1073741824 s = false := by
      rw [Bool.eq_false_iff]
      intro h
      obtain ⟨h1, h2, h3⟩ := pOk_words h
      have h5 : ((pL 1073741824 s).map cfTx)[k]? = some (cfTx 0) := by
        unfold pL
        rw [List.getElem?_map, List.getElem?_map, List.getElem?_eq_getElem hk, hkx]
        show some (cfTx (numV 10 x 1073741824)) = _
        rw [g2]
      rw [← h3, List.getElem?_eq_getElem hk, hkx] at h5
      have h6 : x = cfTx 0 := Option.some.inj h5
      rw [h6, cfTx_zero] at g3
      omega
    rw [f1, f2]
    exact ⟨rfl, fun h => by cases h⟩
/-! ### The words, on both sides -/
theorem split13_any (s : ByteArray) (w : World) (hs : s.size ≤ 100000) :
    Calls Tryd.prog 7 #[.string s, .string ⟨#[32]⟩] w fun e w' => e = .returned (.slice (some ⟨w.heap.size, 0, none⟩) (wdK s).length (wdK s).length) ∧ w' = w.alloc (.cells ((wdK s).map Value.string).toArray 9) := by
  have g := split_oneW Tryd.lays146 (by kernel_rfl) s 32 w (by omega)
  have e := split_wdK s
  unfold wd32 at e
  rw [e] at g
  have hl : (wdK s).length = Lib.countB s ⟨#[32]⟩ + 1 := by rw [← e]; exact Lib.splitB_all ⟨#[32]⟩ (Nat.le_refl 1) 0 _ s rfl
  rw [← hl] at g
  exact g
theorem wdK_end (s : ByteArray) : wdK s = (wdAt s s.size).2 ++ [s.extract (wdAt s s.size).1 s.size] := rfl
set_option maxRecDepth 100000 in
set_option maxHeartbeats 4000000 in
theorem rwords13_any (s : ByteArray) (w : World) (hs : s.size ≤ 200000000) : Calls Tryd.prog 11 #[.string s] w fun e w' => ∃ v, e = .returned v ∧ w'.ownsRow w.heap.size 9 1 v (wdK s).length (svH (wdK s)) ∧ Below w.heap.size w w' := by
  have HO0 := Kp.mk (World.ownsRow_lit (base := w.heap.size) (e := 9) (size := 1) w #[] 0 (Nat.le_refl _) (by unfold maxLen; omega) rfl)
  have HB0 := Kp.mk ((Below.refl w.heap.size w).alloc (Nat.le_refl _) (.cells #[] 9))
  have HEND := Kp.mk (wdK_end s)
  go_enter Tryd.func11, Tryd.ntmps11
  go_wp2_with fail
  go_loopw [3, 4, 5] (fun ov fv iv wr => ∃ k : Nat, iv = .int .i64 k ∧ fv = .int .i64 (wdAt s k).1 ∧ k ≤ s.size ∧ wr.ownsRow w.heap.size 9 1 ov (wdAt s k).2.length (svH (wdAt s k).2) ∧ Below w.heap.size w wr) (fun _ _ iv _ => s.size - (intOf iv).toNat)
  case atStart => exact ⟨0, rfl, rfl, by omega, HO0.out, HB0.out⟩
  case round =>
    obtain ⟨k, rfl, rfl, hk, hown, hb⟩ := hrel
    obtain ⟨av, cv, rfl⟩ := own_lenH hown
    have hfr := wdAt_fr s k
    have hol := wdAt_len s k
    have HOW := Kp.mk hown
    have HB := Kp.mk hb
    have hsz := hb.size
    have HHIT := Kp.mk (fun h => wdAt_hit (s := s) (k := k) h)
    have HMISS := Kp.mk (fun h => wdAt_miss (s := s) (k := k) h)
    clear hown hb
    by_cases hlt : k < s.size
    · have q0 : (0 : Int) ≤ (k : Int) := by omega
      have q1 : (k : Int) < (s.size : Int) := by omega
      have hbt := bt_at s k hlt
      generalize hc : wdAt s k = C at *
      obtain ⟨fr, P⟩ := C
      dsimp only at *
      have q5 : (fr : Int) ≤ (k : Int) := by omega
      have q6 : (k : Int) ≤ (s.size : Int) := by omega
      have q7 : (0 : Int) ≤ (fr : Int) := by omega
      have hlen : (P.length + 1) * 16 ≤ 140737488355328 := by omega
      have hmx : P.length + 1 ≤ maxLen := by unfold maxLen; omega
      by_cases h44 : bt s k = 32
      · have HN := Kp.mk (HHIT.out h44)
        rw [h44] at hbt
        clear h44
        go_wp2_with (at_builtin; refine app_any rfl _ _ _ _ rfl Tryd.underlying31 _ _ _ Tryd.infoSH rfl (by omega) w.heap.size _ _ _ rfl HOW.out #[.string (s.extract fr k)] rfl (fun u hu => by simp at hu; subst hu; rfl) _ rfl rfl hlen hmx hsz ?_; intro g' cap' w' h1 h2 h3; have G1 := Kp.mk h1; have G2 := Kp.mk h2; clear h1 h2 h3)
        go_roundw
        case rel =>
          refine ⟨k + 1, by go_num, by rw [HN.out]; go_num, by omega, ?_, HB.out.trans (grown_bel HOW.out hsz G2.out)⟩
          rw [HN.out]
          show World.ownsRow _ _ _ _ _ (P ++ [s.extract fr k]).length (svH (P ++ [s.extract fr k]))
          rw [List.length_append, svH_snoc]
          exact G1.out
        case measure => simp [intOf]; omega
      · have HN := Kp.mk (HMISS.out h44)
        generalize bt s k = c at *
        have q44 : ((c : Int) == 32) = false := by rw [beq_eq_false_iff_ne]; omega
        go_wp2_with fail
        go_roundw
        case rel => exact ⟨k + 1, by go_num, by rw [HN.out], by omega, by rw [HN.out]; exact HOW.out, HB.out⟩
        case measure => simp [intOf]; omega
    · obtain rfl : k = s.size := by omega
      generalize hc : wdAt s s.size = C at *
      obtain ⟨fr, P⟩ := C
      dsimp only at *
      have q5 : (fr : Int) ≤ (s.size : Int) := by omega
      have q7 : (0 : Int) ≤ (fr : Int) := by omega
      have hlen : (P.length + 1) * 16 ≤ 140737488355328 := by omega
      have hmx : P.length + 1 ≤ maxLen := by unfold maxLen; omega
      go_wp2_with (at_builtin; refine app_any rfl _ _ _ _ rfl Tryd.underlying31 _ _ _ Tryd.infoSH rfl (by omega) w.heap.size _ _ _ rfl HOW.out #[.string (s.extract fr s.size)] rfl (fun u hu => by simp at hu; subst hu; rfl) _ rfl rfl hlen hmx hsz ?_; intro g' cap' w' h1 h2 h3; have G1 := Kp.mk h1; have G2 := Kp.mk (grown_bel HOW.out hsz h2); clear h1 h2 h3)
      go_ret
      refine ⟨_, rfl, ?_, HB.out.trans G2.out⟩
      rw [HEND.out, List.length_append, svH_snoc]
      exact G1.out
end Go.Proofs.YtggnnaafkekihaaDoor
