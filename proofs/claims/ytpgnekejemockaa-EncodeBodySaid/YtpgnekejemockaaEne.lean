/- Bodies (layer 25): Body, the program's. -/
import Derived.Test.YtpgnekejemockaaEnd
import Derived.Test.YtpgnekejemockaaBdr
import Derived.Test.YtpgnekejemockaaShb
import Derived.Deep.DeepCutAuto
namespace Go.Proofs.Ytpgnekejemockaa
open Go.RowKit Go.Shelf
set_option linter.unusedVariables false
set_option linter.unusedSimpArgs false
attribute [local go_sem] Oper.semAt_some

theorem pieS_size (x : ByteArray) (h : x.size ≤ 2000) : (pieS x).size ≤ 2024 := by
  unfold pieS
  rw [ByteArray.size_append, ByteArray.size_append, crlf_size]
  have := begS_size x.size
  omega
theorem chS_size : ∀ (xs : List ByteArray), (∀ x ∈ xs, x.size ≤ 2000) → (chS xs).size ≤ 2024 * xs.length := by
  intro xs h
  have key : ∀ k, k ≤ xs.length → (chS (xs.take k)).size ≤ 2024 * k := by
    intro k
    induction k with
    | zero => intro _; simp [chS]; rfl
    | succ k ih =>
      intro hk
      rw [List.take_succ_eq_append_getElem (by omega), chS_snoc, ByteArray.size_append]
      have h1 := ih (by omega)
      have h2 := pieS_size _ (h (xs[k]'(by omega)) (List.getElem_mem _))
      omega
  have := key xs.length (Nat.le_refl _)
  rwa [List.take_length] at this
/-- The body's relation: the builder at h holds the pieces that have come. -/
structure EbI (h B : Nat) (w : World) (pre : List ByteArray) (W : World) : Prop where
  bd : BdR (h + 5) h (Lib.strCells (chS pre)) W
  sz : ∀ x ∈ pre, x.size ≤ 2000
  bl : Below B w W
theorem EbI.abd (h B : Nat) (hB : B ≤ h) (w : World) (pre : List ByteArray) : Abd (h + 3) (h + 5) (EbI h B w pre) := by
  rintro A A' ⟨h1, h2, h3⟩ hk
  have hlt := h1.lt
  exact ⟨h1.keep (hk.block h hlt (.inl (by omega))) fun k a b => hk.block k b (.inr a), h2, ⟨hk.os.trans h3.os, hk.tape.trans h3.tape, hk.output.trans h3.output, Nat.le_trans h3.size hk.size, fun k hl => (hk.block k (by omega) (.inl (by omega))).trans (h3.block k hl)⟩⟩
theorem below_putT5 {B r : Nat} {w W : World} {o o' : Obj} (h : Below B w W) (hr : B ≤ r) (ho : W.heap[r]? = some o) : Below B w (W.putObj r o') :=
  ⟨h.os, h.tape, h.output, by simp; exact h.size, fun k hk => (World.putObj_heap_other (by omega)).trans (h.block k hk)⟩
set_option maxRecDepth 100000 in
set_option maxHeartbeats 4000000 in
theorem ebody_any (kind ln : Int) (v vt : Value) (l : List Int) (s : ByteArray) (T : List Fld) (w : World) (hv : RdZ w v l) (ht : RdF w vt T) (hl : l.length ≤ 300) (hs : s.size ≤ 2000) (hz : ∀ p ∈ T, FldQ p) (hT : T.length ≤ 40) :
    Calls Try.prog 21 #[.agg #[.int .i64 kind, .int .i64 ln], v, .string s, vt] w fun e w' => e = .returned (.tuple #[.string (bdT kind ln l s T), .int .i64 (bdE kind ln l s T)]) ∧ Below w.heap.size w w' := by
  have HV := Kp.mk hv
  have HT := Kp.mk ht
  have HZ := Kp.mk hz
  have HF := Kp.mk (fun W (hW : Below w.heap.size w W) => efits_any kind ln v l s W (hv.below hW) hl hs)
  have HCW := Kp.mk (fun W (hW : Below w.heap.size w W) => cow_any vt T W (ht.below hW) hz (by omega))
  have HLA := Kp.mk (fun W (hW : Below w.heap.size w W) => elast_any vt T W (ht.below hW) hz (by omega))
  obtain ⟨a, c, rfl, -, -, -⟩ := hv
  obtain ⟨a2, c2, rfl, -, -, -⟩ := ht
  clear hz
  have HX := Kp.mk (heap_alloc_new w (.cells #[.int .i64 kind, .int .i64 ln] 47))
  have HB := Kp.mk ((Below.refl w.heap.size w).alloc (Nat.le_refl _) (.cells #[.int .i64 kind, .int .i64 ln] 47))
  have HBE := Kp.mk (show bdE kind ln l s T = if fitB kind ln l s = false ∨ (kind ≠ 2 ∧ 0 < l.length + T.length) then 14 else if anyW T = true then 7 else 0 from rfl)
  have HBT := Kp.mk (show bdT kind ln l s T = if bdE kind ln l s T ≠ 0 then ⟨#[]⟩ else if kind ≠ 2 then s else chS (cutL s 0 l) ++ lstF T from rfl)
  have HOK := Kp.mk (show kind = 2 → fitB kind ln l s = true → cutOk l (s.size : Int) = true from fun h2 h => by
    subst h2
    unfold fitB at h
    by_cases h0 : ln < 0
    · rw [if_pos h0] at h; cases h
    · rw [if_neg h0, if_neg (by omega), if_neg (by omega), if_pos rfl] at h
      exact h)
  generalize bdT kind ln l s T = RT at *
  generalize bdE kind ln l s T = RE at *
  generalize fitB kind ln l s = FB at *
  generalize anyW T = AW at *
  have hun : (undef : Value) = .tuple #[] := rfl
  cases FB
  · have hE : RE = 14 := HBE.out.trans (if_pos (.inl rfl))
    have hT2 : RT = ⟨#[]⟩ := HBT.out.trans (if_pos (by rw [hE]; omega))
    subst hE hT2
    go_enter Try.func21, Try.ntmps21
    go_wp2_with fail
    refine (HF.out _ HB.out).mono ?_
    rintro e w2 ⟨rfl, hb2⟩
    have HX2 := Kp.mk ((hb2.block _ (blk_lt HX.out)).trans HX.out)
    have HB2 := Kp.mk (HB.out.trans (hb2.mono HB.out.size))
    have d0 := blk_cell (i := 0) HX2.out rfl
    have d1 := blk_cell (i := 1) HX2.out rfl
    clear hb2
    go_wp2_with fail
    exact bodyPost_ret (v := .tuple #[.string ⟨#[]⟩, .int .i64 14]) (by simp [results, Try.results21, go_sem]) rfl ⟨rfl, HB2.out⟩
  · by_cases hk : kind = 2
    · subst hk
      have HCK := Kp.mk (HOK.out rfl rfl)
      have hE0 := HBE.out.trans (if_neg (by rintro (h | ⟨h, _⟩); cases h; exact h rfl))
      cases AW
      · have hE : RE = 0 := hE0
        have hT2 : RT = chS (cutL s 0 l) ++ lstF T := (HBT.out.trans (if_neg (by rw [hE]; omega))).trans (if_neg (by simp))
        subst hE
        have HRT := Kp.mk hT2
        clear hE0 hT2 HBE HBT HOK hun
        refine (callsIn_wide (n := 5)).1 ?_
        refine callsIn_of_wp_marks Try.func21 rfl trivial ?_ rfl
        simp only [Try.ntmps21, List.size_toArray, List.length_cons, List.length_nil, Nat.reduceAdd, Nat.reduceSub, Array.replicate_succ, Array.replicate_zero, List.push_toArray, List.append_toArray, List.nil_append, List.cons_append]
        gi_wp2_with fail
        refine ⟨trivial, (callsIn_wide.2 (HF.out _ HB.out)).mono ?_⟩
        rintro e w2 ⟨rfl, hb2⟩
        have HX2 := Kp.mk ((hb2.block _ (blk_lt HX.out)).trans HX.out)
        have HB2 := Kp.mk (HB.out.trans (hb2.mono HB.out.size))
        have d0 := blk_cell (i := 0) HX2.out rfl
        have d1 := blk_cell (i := 1) HX2.out rfl
        clear hb2
        gi_wp2_with fail
        refine ⟨trivial, (callsIn_wide.2 (HCW.out _ HB2.out)).mono ?_⟩
        rintro e w3 ⟨rfl, hb3⟩
        have HX3 := Kp.mk ((hb3.block _ (blk_lt HX2.out)).trans HX2.out)
        have HB3 := Kp.mk (HB2.out.trans (hb3.mono HB2.out.size))
        have c0 := blk_cell (i := 0) HX3.out rfl
        clear hb3 d0 d1
        gi_wp2_with fail
        refine ⟨trivial, (callsIn_wide.2 (cut_any s _ _ ⟨_, _, _, rfl⟩)).mono ?_⟩
        rintro e w4 ⟨rfl, rfl⟩
        gi_wp2_with fail
        try simp only [Nat.add_assoc, Nat.reduceAdd]
        obtain ⟨w0, hw0⟩ : ∃ w0, (((w3.alloc (.cells #[.pointer none, .slice none 0 0] 93)).alloc (.cells #[.string s] 9)).alloc (.cells #[.slice a l.length c] 38)) = w0 := ⟨_, rfl⟩
        have e1 : (w3.alloc (.cells #[.pointer none, .slice none 0 0] 93)).heap.size = w3.heap.size + 1 := World.size_alloc _ _
        have e2 : ((w3.alloc (.cells #[.pointer none, .slice none 0 0] 93)).alloc (.cells #[.string s] 9)).heap.size = w3.heap.size + 2 := by rw [World.size_alloc, e1]
        have k1 := heap_alloc_new (w3.alloc (.cells #[.pointer none, .slice none 0 0] 93)) (.cells #[.string s] 9)
        have k2 := heap_alloc_new ((w3.alloc (.cells #[.pointer none, .slice none 0 0] 93)).alloc (.cells #[.string s] 9)) (.cells #[.slice a l.length c] 38)
        rw [e1] at k1
        rw [e2, hw0] at k2
        have k1' := blk_alloc (o2 := .cells #[.slice a l.length c] 38) k1
        rw [hw0] at k1'
        have S0 : w0.heap.size = w3.heap.size + 3 := by rw [← hw0, World.size_alloc, e2]
        have HBL := Kp.mk (show Below w3.heap.size w3 w0 by rw [← hw0]; exact ((Below.refl _ _).alloc (Nat.le_refl _) _ |>.alloc (by rw [e1]; omega) _).alloc (by rw [e2]; omega) _)
        have hwz : w.heap.size ≤ w3.heap.size := HB3.out.size
        have HBW := Kp.mk (HB3.out.trans (HBL.out.mono hwz))
        have HI := Kp.mk (show EbI w3.heap.size w.heap.size w [] w0 by
          refine ⟨⟨.pointer none, .slice none 0 0, ?_, .inl rfl, ⟨rfl, .inl ⟨rfl, rfl⟩⟩, by simp [Value.ownBlock]⟩, by simp, HBW.out⟩
          rw [← hw0]
          exact blk_alloc (blk_alloc (heap_alloc_new w3 _)))
        have HS0 := Kp.mk S0
        have HK1 := Kp.mk k1'
        have HK2 := Kp.mk k2
        have HV0 := Kp.mk (HV.out.below HBW.out)
        have HVO := Kp.mk (show ∀ k, (Value.slice a l.length c).ownBlock = some k → 0 < l.length → k < w.heap.size from fun k hk h0 => by
          obtain ⟨b, o, rfl, hb, -⟩ := rdz_cells HV.out h0
          simp [Value.ownBlock] at hk
          omega)
        rw [hw0]
        clear e1 e2 k1 k1' k2 hw0 S0 c0
        generalize hh : w3.heap.size = h at *
        refine rfp_law (n := 5) rfl (by omega) (gf := 78) (lb := #[.pointer (some ⟨h + 2, 0, none⟩), .pointer (some ⟨h + 1, 0, none⟩)]) rfl trivial (enters_of Try.func78 (by kernel_rfl) rfl)
          (fun k => k ≠ h ∧ k < h + 5) (h + 5) (by rw [HS0.out]; omega) (fun j x y => by have := HS0.out; omega)
          (S := fun xs => xs = cutL s 0 l) (Sp := fun pre => pre <+: cutL s 0 l) (N := l.length + 1) (Px := fun x => x.size ≤ 2000) (encs := cutE) ?seq (fun x => rfl) (EbI h w.heap.size w) (fun _ _ _ => False)
          (fun pre => by rw [HS0.out]; exact EbI.abd _ _ hwz _ _) (fun c pre => fun _ _ hf _ => hf) HI.out
          (fun x => { tmps := #[.agg #[.int .i64 2, .int .i64 ln], .slice a l.length c, .string s, .slice a2 T.length c2, .pointer (some ⟨w.heap.size, 0, none⟩), undef, undef, undef, .string ⟨#[]⟩, .int .i64 0, .func (.func 42) #[] #[], .pointer (some ⟨h, 0, none⟩), .string x, .bool false, .agg #[.int .i64 2, .int .i64 ln], .slice a l.length c, .string s, .bool true, .bool false, .bool false, .pointer (some ⟨w.heap.size, 0, none⟩), .int .i64 2, .bool false, .bool false, undef, undef, undef, undef, undef, undef, .bool false, .bool false, .bool false, .slice a2 T.length c2, .func (.func 42) #[] #[], .bool false, .bool false, .pointer (some ⟨w.heap.size, 0, none⟩), .int .i64 2, .bool false, undef, .string s, .slice a l.length c, .func (.func 78) #[] #[.pointer (some ⟨h + 2, 0, none⟩), .pointer (some ⟨h + 1, 0, none⟩)], .string x, undef, undef, undef, undef, undef, undef, undef, undef, undef, undef, undef, undef], defers := [] }) ?assign ?body ?done ?stop
        case seq =>
          intro W hW hb
          have e := cut_seq 4 (w0.heap.size + 1) (h + 1) (h + 2) s (.slice a l.length c) l (fun j => (j ≠ h ∧ j < h + 5) ∧ j ≠ w0.heap.size + 1) W (HV0.out.below hb) HCK.out hl hs (by have := HS0.out; omega) (by have := HS0.out; omega) (fun h0 k hk => by have := HVO.out k hk h0; have := HS0.out; omega) ((hb.block _ (blk_lt HK1.out)).trans HK1.out) ((hb.block _ (blk_lt HK2.out)).trans HK2.out) (by have := HS0.out; omega) (by have := HS0.out; omega)
          rw [show W.heap.size = h + 5 by have := HS0.out; omega] at e
          exact e
        case assign =>
          rintro l2 x W K hK
          simp only [cutE]
          gi_wp2
          exact hK
        case body =>
          rintro l2 pre x W hxs hI hlen hz2
          have HBD := Kp.mk hI.bd
          have HSZ := Kp.mk hI.sz
          have HBI := Kp.mk hI.bl
          have hcs := chS_size pre hI.sz
          have HBG := Kp.mk (fun W => ebegin_any (x.size : Int) W (by omega) (by omega))
          have hbs := begS_size x.size
          have HSN := Kp.mk (show chS (pre ++ [x]) = chS pre ++ (begS x.size ++ x ++ crlf) from chS_snoc pre x)
          have hps := pieS_size x hxs
          unfold pieS at hps
          have hcr : crlf.size ≤ 2 := Nat.le_refl 2
          have hlt := HBD.out.lt
          clear hI
          generalize begS x.size = bx at *
          have hq : (bx ++ x).size ≤ 2022 := by rw [ByteArray.size_append]; omega
          gi_wp2_with fail
          refine ⟨trivial, (callsIn_wide.2 (HBG.out _)).mono ?_⟩
          rintro e W2 ⟨rfl, hb2⟩
          have HC2 := Kp.mk (show BdC (h + 5) h W W2 from BdC.of hb2)
          have HBD2 := Kp.mk (HBD.out.below hb2)
          have HBI2 := Kp.mk (HBI.out.trans (hb2.mono (by omega)))
          have hz3 : h + 5 ≤ W2.heap.size := Nat.le_trans hz2 hb2.size
          clear hb2
          gi_wp2_with fail
          refine ⟨trivial, (callsIn_wide.2 (eend_any _)).mono ?_⟩
          rintro e W3 ⟨rfl, rfl⟩
          have HWR := Kp.mk (bwriteR (h + 5) h _ (bx ++ x ++ crlf) W2 HBD2.out (by rw [Lib.strCells_length]; omega) hz3)
          gi_wp2_with fail
          refine ⟨trivial, (callsIn_wide.2 HWR.out).mono ?_⟩
          rintro e W4 ⟨rfl, hbd4, hc4⟩
          have HBD4 := Kp.mk hbd4
          have HC4 := Kp.mk hc4
          gi_wp2_with fail
          have hC := HC2.out.trans HC4.out
          refine ⟨⟨hC.os, hC.tape, hC.output, hC.size, fun k hk hf => hC.block k hk hf.1 hf.2⟩, ⟨?_, fun y hy => ?_, ?_⟩⟩
          · rw [HSN.out]
            have := HBD4.out
            rw [show Lib.strCells (chS pre ++ (bx ++ x ++ crlf)) = Lib.strCells (chS pre) ++ Lib.strCells (bx ++ x ++ crlf) by simp [Lib.strCells, ByteArray.data_append]]
            exact this
          · rcases List.mem_append.1 hy with hy | hy
            · exact HSZ.out y hy
            · rw [List.mem_singleton.1 hy]; exact hxs
          · exact HBI2.out.trans ⟨HC4.out.os, HC4.out.tape, HC4.out.output, HC4.out.size, fun k hk => HC4.out.block k (by have := HBI2.out.size; omega) (by omega) (by omega)⟩
        case done =>
          rintro xs W rfl hI hK
          have HBD := Kp.mk hI.bd
          have HBI := Kp.mk hI.bl
          have HK := Kp.mk hK
          have HST := Kp.mk (show Calls Try.prog 48 #[.pointer (some ⟨h, 0, none⟩)] W fun e w' => e = .returned (.string (chS (cutL s 0 l))) ∧ Below w.heap.size W w' ∧ Lib.OthersKept 5 (some h) W w' from
            (Try.Builder_String_any_k w.heap.size h (chS (cutL s 0 l)).data.toList W (by rw [← Lib.strCells_eq]; exact hI.bd.isB hwz (by omega)) hI.bl.size).mono fun e w' ⟨g1, g2, g3, g4⟩ => ⟨by rw [g1], g3, g4⟩)
          have HXL := Kp.mk (chS_size _ hI.sz)
          have hxl : (chS (cutL s 0 l)).size ≤ 607200 := by have := HXL.out; rw [cutL_len] at this; omega
          clear hI hK
          generalize chS (cutL s 0 l) = X at *
          gi_wp2_with fail
          refine ⟨trivial, (callsIn_wide.2 HST.out).mono ?_⟩
          rintro e W2 ⟨rfl, hb2, ho2⟩
          have HBI2 := Kp.mk (HBI.out.trans hb2)
          have HK3 := Kp.mk (ho2 _ _ HK.out (by have := HS0.out; simp; omega) (fun _ _ => by simp))
          have HLS := Kp.mk (HLA.out W2 HBI2.out)
          have hls : (lstF T).size ≤ 20000 := by
            unfold lstF
            rw [ByteArray.size_append, crlf_size]
            have h1 := trlF_size (lineS 0) T HZ.out
            have h2 := lineS_size 0
            omega
          clear hb2 ho2
          generalize lstF T = Z at *
          gi_wp2_with fail
          refine ⟨trivial, (callsIn_wide.2 HLS.out).mono ?_⟩
          rintro e W3 ⟨rfl, hb3⟩
          have HBI3 := Kp.mk (HBI2.out.trans (hb3.mono HBI2.out.size))
          have HK4 := Kp.mk ((hb3.block _ (blk_lt HK3.out)).trans HK3.out)
          clear hb3
          gi_wp2_with fail
          refine ⟨by simp, .inl ⟨_, _, rfl, run_takeDeferred HK4.out, ?_⟩⟩
          refine ⟨.tuple #[.string RT, .int .i64 0], ?_, ?_⟩
          · rw [HRT.out]
            simp [results, Try.results21, go_sem, Result.andThen]
          · exact ⟨rfl, below_putT5 HBI3.out (by have := HS0.out; omega) HK4.out⟩
        case stop =>
          rintro c pre W hp hX hK
          exact hX.elim
      · have hE : RE = 7 := hE0
        have hT2 : RT = ⟨#[]⟩ := HBT.out.trans (if_pos (by rw [hE]; omega))
        subst hE hT2
        clear hE0
        go_enter Try.func21, Try.ntmps21
        go_wp2_with fail
        refine (HF.out _ HB.out).mono ?_
        rintro e w2 ⟨rfl, hb2⟩
        have HX2 := Kp.mk ((hb2.block _ (blk_lt HX.out)).trans HX.out)
        have HB2 := Kp.mk (HB.out.trans (hb2.mono HB.out.size))
        have d0 := blk_cell (i := 0) HX2.out rfl
        have d1 := blk_cell (i := 1) HX2.out rfl
        clear hb2
        go_wp2_with fail
        refine (HCW.out _ HB2.out).mono ?_
        rintro e w3 ⟨rfl, hb3⟩
        have HX3 := Kp.mk ((hb3.block _ (blk_lt HX2.out)).trans HX2.out)
        have HB3 := Kp.mk (HB2.out.trans (hb3.mono HB2.out.size))
        have c0 := blk_cell (i := 0) HX3.out rfl
        clear hb3 d0 d1
        go_wp2_with fail
        exact bodyPost_ret (v := .tuple #[.string ⟨#[]⟩, .int .i64 7]) (by simp [results, Try.results21, go_sem]) rfl ⟨rfl, HB3.out⟩
    · have t0 : (kind != 2) = true := by rw [bne_iff_ne]; exact hk
      by_cases hn : 0 < l.length + T.length
      · have hE : RE = 14 := HBE.out.trans (if_pos (.inr ⟨hk, hn⟩))
        have hT2 : RT = ⟨#[]⟩ := HBT.out.trans (if_pos (by rw [hE]; omega))
        subst hE hT2
        have t1 : (0 : Int) < (l.length : Int) + (T.length : Int) := by omega
        go_enter Try.func21, Try.ntmps21
        go_wp2_with fail
        refine (HF.out _ HB.out).mono ?_
        rintro e w2 ⟨rfl, hb2⟩
        have HX2 := Kp.mk ((hb2.block _ (blk_lt HX.out)).trans HX.out)
        have HB2 := Kp.mk (HB.out.trans (hb2.mono HB.out.size))
        have d0 := blk_cell (i := 0) HX2.out rfl
        have d1 := blk_cell (i := 1) HX2.out rfl
        clear hb2
        go_wp2_with fail
        exact bodyPost_ret (v := .tuple #[.string ⟨#[]⟩, .int .i64 14]) (by simp [results, Try.results21, go_sem]) rfl ⟨rfl, HB2.out⟩
      · have hl0 : l.length = 0 := by omega
        have hT0 : T.length = 0 := by omega
        have t1 : ¬ (0 : Int) < (l.length : Int) + (T.length : Int) := by omega
        have hE0 := HBE.out.trans (if_neg (by rintro (h | ⟨_, h⟩); cases h; exact hn h))
        cases AW
        · have hE : RE = 0 := hE0
          have hT2 : RT = s := (HBT.out.trans (if_neg (by rw [hE]; omega))).trans (if_pos hk)
          subst hE hT2
          clear hE0 hl0 hT0
          go_enter Try.func21, Try.ntmps21
          go_wp2_with fail
          refine (HF.out _ HB.out).mono ?_
          rintro e w2 ⟨rfl, hb2⟩
          have HX2 := Kp.mk ((hb2.block _ (blk_lt HX.out)).trans HX.out)
          have HB2 := Kp.mk (HB.out.trans (hb2.mono HB.out.size))
          have d0 := blk_cell (i := 0) HX2.out rfl
          have d1 := blk_cell (i := 1) HX2.out rfl
          clear hb2
          go_wp2_with fail
          refine (HCW.out _ HB2.out).mono ?_
          rintro e w3 ⟨rfl, hb3⟩
          have HX3 := Kp.mk ((hb3.block _ (blk_lt HX2.out)).trans HX2.out)
          have HB3 := Kp.mk (HB2.out.trans (hb3.mono HB2.out.size))
          have c0 := blk_cell (i := 0) HX3.out rfl
          clear hb3 d0 d1
          go_wp2_with fail
          exact bodyPost_ret (v := .tuple #[.string RT, .int .i64 0]) (by simp [results, Try.results21, go_sem]) rfl ⟨rfl, HB3.out⟩
        · have hE : RE = 7 := hE0
          have hT2 : RT = ⟨#[]⟩ := HBT.out.trans (if_pos (by rw [hE]; omega))
          subst hE hT2
          clear hE0 hl0 hT0
          go_enter Try.func21, Try.ntmps21
          go_wp2_with fail
          refine (HF.out _ HB.out).mono ?_
          rintro e w2 ⟨rfl, hb2⟩
          have HX2 := Kp.mk ((hb2.block _ (blk_lt HX.out)).trans HX.out)
          have HB2 := Kp.mk (HB.out.trans (hb2.mono HB.out.size))
          have d0 := blk_cell (i := 0) HX2.out rfl
          have d1 := blk_cell (i := 1) HX2.out rfl
          clear hb2
          go_wp2_with fail
          refine (HCW.out _ HB2.out).mono ?_
          rintro e w3 ⟨rfl, hb3⟩
          have HX3 := Kp.mk ((hb3.block _ (blk_lt HX2.out)).trans HX2.out)
          have HB3 := Kp.mk (HB2.out.trans (hb3.mono HB2.out.size))
          have c0 := blk_cell (i := 0) HX3.out rfl
          clear hb3 d0 d1
          go_wp2_with fail
          exact bodyPost_ret (v := .tuple #[.string ⟨#[]⟩, .int .i64 7]) (by simp [results, Try.results21, go_sem]) rfl ⟨rfl, HB3.out⟩
end Go.Proofs.Ytpgnekejemockaa
