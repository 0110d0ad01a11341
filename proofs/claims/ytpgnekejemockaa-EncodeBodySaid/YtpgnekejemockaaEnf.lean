/- Bodies (layer 25): Body, the document's. -/
import Derived.Test.YtpgnekejemockaaEne
import Derived.Test.YtpgnekejemockaaQs
namespace Go.Proofs.Ytpgnekejemockaa
open Go.RowKit Go.Shelf
set_option linter.unusedVariables false
set_option linter.unusedSimpArgs false

/-- What the document calls plain. -/
def plaB (kind ln : Int) (s : ByteArray) : Bool := (decide (kind = 0) && decide (s.size = 0)) || (decide (kind = 1) && decide (ln = (s.size : Int))) || decide (kind = 3)
theorem fit_pla {kind ln : Int} {l : List Int} {s : ByteArray} (h2 : kind ≠ 2) (h0 : ¬ ln < 0) : fitB kind ln l s = plaB kind ln s := by
  unfold fitB plaB
  rw [if_neg h0]
  by_cases k0 : kind = 0
  · subst k0; simp
  · by_cases k1 : kind = 1
    · subst k1; simp
    · simp [k0, k1, h2]
theorem sumZ_pos {l : List Int} (h : ∀ x ∈ l, 0 ≤ x) : 0 ≤ sumZ l := by
  induction l with
  | nil => simp [sumZ]
  | cons a l ih =>
    have h1 := ih fun x hx => h x (List.mem_cons_of_mem _ hx)
    have h2 := h a (by simp)
    have e : sumZ (a :: l) = a + sumZ l := by simp [sumZ]
    omega
theorem ext_ext (s : ByteArray) (a n : Nat) (h : a + n ≤ s.size) : (s.extract a s.size).extract 0 n = s.extract a (a + n) := by
  refine ba_ext ?_
  rw [ByteArray.data_extract, ByteArray.data_extract, ByteArray.data_extract]
  simp only [Array.toList_extract, List.extract_eq_take_drop, Nat.sub_zero, List.drop_zero]
  rw [List.take_take]
  congr 1
  omega
theorem ext_more (s : ByteArray) (a n : Nat) (h : a + n ≤ s.size) : (s.extract a s.size).extract n (s.extract a s.size).size = s.extract (a + n) s.size := by
  refine ba_ext ?_
  rw [ByteArray.size_extract, ByteArray.data_extract, ByteArray.data_extract, ByteArray.data_extract]
  simp only [Array.toList_extract, List.extract_eq_take_drop]
  rw [List.drop_take, List.drop_drop, List.take_take]
  congr 1
  omega
set_option maxRecDepth 100000 in
set_option maxHeartbeats 4000000 in
theorem rbody_any (kind ln : Int) (v vt : Value) (l : List Int) (s : ByteArray) (T : List Fld) (w : World) (hv : RdZ w v l) (ht : RdF w vt T) (hl : l.length ≤ 300) (hs : s.size ≤ 2000) (hz : ∀ p ∈ T, FldQ p) (hT : T.length ≤ 40) :
    Calls Try.prog 22 #[.agg #[.int .i64 kind, .int .i64 ln], v, .string s, vt] w fun e w' => e = .returned (.tuple #[.string (bdT kind ln l s T), .int .i64 (bdE kind ln l s T)]) ∧ Below w.heap.size w w' := by
  have HV := Kp.mk hv
  have HT := Kp.mk ht
  have HZ := Kp.mk hz
  have HLA := Kp.mk (fun W (hW : Below w.heap.size w W) => rlast25_any vt T W (ht.below hW) hz (by omega))
  obtain ⟨a, c, rfl, -, -, -⟩ := hv
  obtain ⟨a2, c2, rfl, -, -, -⟩ := ht
  clear hz
  have HX := Kp.mk (heap_alloc_new w (.cells #[.int .i64 kind, .int .i64 ln] 47))
  have HB := Kp.mk ((Below.refl w.heap.size w).alloc (Nat.le_refl _) (.cells #[.int .i64 kind, .int .i64 ln] 47))
  have HBE := Kp.mk (show bdE kind ln l s T = if fitB kind ln l s = false ∨ (kind ≠ 2 ∧ 0 < l.length + T.length) then 14 else if anyW T = true then 7 else 0 from rfl)
  have HBT := Kp.mk (show bdT kind ln l s T = if bdE kind ln l s T ≠ 0 then ⟨#[]⟩ else if kind ≠ 2 then s else chS (cutL s 0 l) ++ lstF T from rfl)
  have HF0 := Kp.mk (show ln < 0 → fitB kind ln l s = false from fun h => by unfold fitB; rw [if_pos h])
  have HF1 := Kp.mk (fun h2 h0 => fit_pla (kind := kind) (ln := ln) (l := l) (s := s) h2 h0)
  have HF2 := Kp.mk (show kind = 2 → ¬ ln < 0 → fitB kind ln l s = cutOk l (s.size : Int) from fun h2 h0 => by subst h2; unfold fitB; rw [if_neg h0, if_neg (by omega), if_neg (by omega), if_pos rfl])
  generalize bdT kind ln l s T = RT at *
  generalize bdE kind ln l s T = RE at *
  generalize fitB kind ln l s = FB at *
  have HPL := Kp.mk (show plaB kind ln s = ((decide (kind = 0) && decide (s.size = 0)) || (decide (kind = 1) && decide (ln = (s.size : Int))) || decide (kind = 3)) from rfl)
  generalize plaB kind ln s = PL at *
  go_enter Try.func22, Try.ntmps22
  go_upto_region 1 with fail
  obtain ⟨w1, hw1⟩ : ∃ w1, w.alloc (.cells #[.int .i64 kind, .int .i64 ln] 47) = w1 := ⟨_, rfl⟩
  rw [hw1] at HX HB
  try rw [hw1]
  clear hw1
  have d0 := blk_cell (i := 0) HX.out rfl
  have d1 := blk_cell (i := 1) HX.out rfl
  go_cut [10] (fun v10 wr => v10 = .bool PL ∧ w1 = wr)
  case first =>
    have hpl := HPL.out
    clear HV HT HZ HLA HX HB HBE HBT HF0 HF1 HF2
    rcases (show kind = 0 ∨ kind = 1 ∨ kind = 3 ∨ (kind ≠ 0 ∧ kind ≠ 1 ∧ kind ≠ 3) by omega) with h | h | h | ⟨h, h', h''⟩
    · subst h
      by_cases hzs : s.size = 0
      · have he : s = ⟨#[]⟩ := (ByteArray.size_eq_zero_iff.1 hzs).trans rfl
        subst he
        have hP : PL = true := by rw [hpl]; rfl
        subst hP
        clear hpl
        go_wp2_with fail
        go_meet
        exact ⟨rfl, rfl⟩
      · have hx2 : ¬ s.toList = [] := fun e => hzs (by rw [ba_size', ← ByteArray.toList_eq, e]; rfl)
        have hx3 : s.toList.isEmpty = false := by rw [List.isEmpty_eq_false_iff]; exact hx2
        have hP : PL = false := by rw [hpl, decide_eq_false hzs]; rfl
        subst hP
        clear hpl hzs
        go_wp2_with fail
        go_meet
        exact ⟨rfl, rfl⟩
    · subst h
      by_cases hzs : ln = (s.size : Int)
      · subst hzs
        have hP : PL = true := by rw [hpl]; simp
        subst hP
        clear hpl
        go_wp2_with fail
        go_meet
        exact ⟨rfl, rfl⟩
      · have t1 : (ln == (s.size : Int)) = false := by rw [beq_eq_false_iff_ne]; exact hzs
        have hP : PL = false := by rw [hpl, decide_eq_false hzs]; rfl
        subst hP
        clear hpl hzs
        go_wp2_with fail
        go_meet
        exact ⟨rfl, rfl⟩
    · subst h
      have hP : PL = true := by rw [hpl]; simp
      subst hP
      clear hpl
      go_wp2_with fail
      go_meet
      exact ⟨rfl, rfl⟩
    · have t1 : (kind == 0) = false := by rw [beq_eq_false_iff_ne]; exact h
      have t2 : (kind == 1) = false := by rw [beq_eq_false_iff_ne]; exact h'
      have t3 : (kind == 3) = false := by rw [beq_eq_false_iff_ne]; exact h''
      have hP : PL = false := by rw [hpl, decide_eq_false h, decide_eq_false h', decide_eq_false h'']; rfl
      subst hP
      clear hpl
      go_wp2_with fail
      go_meet
      exact ⟨rfl, rfl⟩
  case rest =>
  obtain ⟨rfl, rfl⟩ := hcut
  have hun : (undef : Value) = .tuple #[] := rfl
  by_cases h0 : ln < 0
  · have hE : RE = 14 := HBE.out.trans (if_pos (.inl (HF0.out h0)))
    have hT2 : RT = ⟨#[]⟩ := HBT.out.trans (if_pos (by rw [hE]; omega))
    subst hE hT2
    go_wp2_with fail
    exact bodyPost_ret (v := .tuple #[.string ⟨#[]⟩, .int .i64 14]) (by simp [results, Try.results22, go_sem]) rfl ⟨rfl, HB.out⟩
  · by_cases hk : kind = 2
    · subst hk
      have hFB := HF2.out rfl h0
      clear HF0 HF1 HF2 hun
      go_wp2_with fail
      have HFB := Kp.mk hFB
      clear hFB d0 d1
      go_loopw [2, 11, 12] (fun vs vo vi wr => ∃ (k at' : Nat), k ≤ l.length ∧ vi = .int .i64 k ∧ (at' : Int) = sumZ (l.take k) ∧ at' ≤ s.size ∧ vs = .string (s.extract at' s.size) ∧ vo = .string (chS (cutL s 0 (l.take k))) ∧ (∀ x ∈ l.take k, 0 ≤ x) ∧ (∀ x ∈ cutL s 0 (l.take k), x.size ≤ 2000) ∧ FB = cutOk (l.drop k) ((s.size : Int) - (at' : Int)) ∧ Below w.heap.size w wr) (fun _ _ vi _ => l.length - (intOf vi).toNat)
      case atStart => exact ⟨0, 0, Nat.zero_le _, rfl, rfl, Nat.zero_le _, by rw [ByteArray.extract_zero_size], rfl, by simp, by simp [cutL], by rw [HFB.out]; simp, HB.out⟩
      case round =>
        obtain ⟨k, at', hk, rfl, hat, hat2, rfl, rfl, hps, hsz, hfb, hb⟩ := hrel
        have HAT := Kp.mk hat
        have HPS := Kp.mk hps
        have HSZ := Kp.mk hsz
        have HFK := Kp.mk hfb
        have HBK := Kp.mk hb
        have hszk := hb.size
        have hcz := chS_size _ hsz
        rw [cutL_len, List.length_take] at hcz
        have hcz2 : (chS (cutL s 0 (l.take k))).size ≤ 607200 := by omega
        have hse : (s.extract at' s.size).size = s.size - at' := by rw [ByteArray.size_extract]; omega
        clear hat hps hsz hfb hb hcz
        by_cases hlt : k < l.length
        · obtain ⟨b, o, rfl, hbl, d⟩ := rdz_cells (HV.out.below HBK.out) (by omega)
          have d1 := d k hlt
          have HCD := Kp.mk (cutOk_drop (left := (s.size : Int) - (at' : Int)) hlt)
          have HST := Kp.mk (sumZ_take hlt)
          have HTK := Kp.mk (List.take_succ_eq_append_getElem hlt)
          have HCS := Kp.mk (fun hp => cutL_snoc s (l.take k) 0 l[k] hp)
          clear d
          generalize l[k] = n at *
          have q1 : (k : Int) < (l.length : Int) := by omega
          have q0 : (0 : Int) ≤ (k : Int) := by omega
          by_cases hn1 : n < 1
          · have hFB : FB = false := by rw [HFK.out, HCD.out, decide_eq_false (by omega)]; rfl
            have hE : RE = 14 := HBE.out.trans (if_pos (.inl hFB))
            have hT2 : RT = ⟨#[]⟩ := HBT.out.trans (if_pos (by rw [hE]; omega))
            subst hE hT2
            clear hFB
            have hun : (undef : Value) = .tuple #[] := rfl
            go_wp2_with fail
            exact bodyPost_ret (v := .tuple #[.string ⟨#[]⟩, .int .i64 14]) (by simp [results, Try.results22, go_sem]) rfl ⟨rfl, HBK.out⟩
          · by_cases hn2 : (s.size : Int) - (at' : Int) < n
            · have hFB : FB = false := by rw [HFK.out, HCD.out, decide_eq_false (show ¬ n ≤ (s.size : Int) - (at' : Int) by omega), Bool.and_false]; rfl
              have hE : RE = 14 := HBE.out.trans (if_pos (.inl hFB))
              have hT2 : RT = ⟨#[]⟩ := HBT.out.trans (if_pos (by rw [hE]; omega))
              subst hE hT2
              have t1 : ((s.extract at' s.size).size : Int) < n := by rw [hse]; omega
              clear hFB hse
              go_wp2_with fail
              exact bodyPost_ret (v := .tuple #[.string ⟨#[]⟩, .int .i64 14]) (by simp [results, Try.results22, go_sem]) rfl ⟨rfl, HBK.out⟩
            · have HF2 := Kp.mk (show FB = cutOk (l.drop (k + 1)) ((s.size : Int) - (at' : Int) - n) by rw [HFK.out, HCD.out, decide_eq_true (show 1 ≤ n by omega), decide_eq_true (show n ≤ (s.size : Int) - (at' : Int) by omega)]; rfl)
              obtain ⟨mm, hmm⟩ : ∃ a : Nat, n = (a : Int) := ⟨n.toNat, by omega⟩
              subst hmm
              have HE1 := Kp.mk (ext_ext s at' mm (by omega))
              have HE2 := Kp.mk (ext_more s at' mm (by omega))
              have HCN := Kp.mk (show cutL s 0 (l.take (k + 1)) = cutL s 0 (l.take k) ++ [s.extract at' (at' + mm)] by
                rw [HTK.out, HCS.out HPS.out, ← HAT.out, Int.toNat_natCast, Int.toNat_natCast, Nat.zero_add])
              have hxs : (s.extract at' (at' + mm)).size = mm := by rw [ByteArray.size_extract]; omega
              have HCT := Kp.mk (show chS (cutL s 0 (l.take (k + 1))) = chS (cutL s 0 (l.take k)) ++ (begS (mm : Int) ++ s.extract at' (at' + mm) ++ crlf) by
                rw [HCN.out, chS_snoc]; unfold pieS; rw [hxs])
              have HPN := Kp.mk (show ∀ x ∈ l.take (k + 1), 0 ≤ x from fun x hx => by
                rw [HTK.out] at hx
                rcases List.mem_append.1 hx with hx | hx
                · exact HPS.out x hx
                · rw [List.mem_singleton.1 hx]; omega)
              have HSN := Kp.mk (show ∀ x ∈ cutL s 0 (l.take (k + 1)), x.size ≤ 2000 from fun x hx => by
                rw [HCN.out] at hx
                rcases List.mem_append.1 hx with hx | hx
                · exact HSZ.out x hx
                · rw [List.mem_singleton.1 hx, hxs]; omega)
              have HAN := Kp.mk (show ((at' + mm : Nat) : Int) = sumZ (l.take (k + 1)) by rw [HST.out, ← HAT.out]; omega)
              have t1 : ¬ ((s.extract at' s.size).size : Int) < (mm : Int) := by rw [hse]; omega
              have t2 : (mm : Int) ≤ ((s.extract at' s.size).size : Int) := by rw [hse]; omega
              have hbs := begS_size (mm : Int)
              clear hse HCD HTK HCS HST HFK
              generalize chS (cutL s 0 (l.take k)) = X at *
              generalize hS1 : s.extract at' s.size = S1 at *
              clear hS1
              go_upto_region 14 with fail
              have q5 : IntKind.i64.wrap ((mm : Int)) = (mm : Int) := by simp [IntKind.wrap, IntKind.signed, IntKind.bits, wrap64]; omega
              have HRB := Kp.mk (fun W => rbegin_any (mm : Int) W (by omega) (by omega))
              generalize begS (mm : Int) = bg at *
              have hsl : (S1.extract 0 mm).size ≤ 2000 := by rw [ByteArray.size_extract]; omega
              have hq1 : (X ++ bg).size ≤ 610000 := by rw [ByteArray.size_append]; omega
              have hq2 : (X ++ bg ++ S1.extract 0 mm).size ≤ 620000 := by rw [ByteArray.size_append]; omega
              have hcr : (⟨#[13, 10]⟩ : ByteArray).size = 2 := rfl
              have HD := Kp.mk d1
              have hbl2 := hbl
              haveI hne : Nonempty (InS (fun W => Below wr.heap.size wr W)) := ⟨⟨wr, Below.refl _ _⟩⟩
              have p0 : ∀ p : InS (fun W => Below wr.heap.size wr W), p.w.cell? ⟨b, o + k, none⟩ = some (.int .i64 (mm : Int)) := fun p => (p.ok.cell (p := ⟨b, o + k, none⟩) hbl).trans HD.out
              refine region_in (fun W => Below wr.heap.size wr W) (by kernel_rfl) (by kernel_rfl) (gdrewN wr 1) ?_
              repeat (go_big_quiet_step (first
                | (go_at_call 24; exact call_in fun W (h : Below wr.heap.size wr W) => (HRB.out W).mono fun _ _ h2 => ⟨h2.1, h.trans (h2.2.mono h.size)⟩)))
              refine wpQuiet_nil ?_
              intro _ hw'
              obtain ⟨wq, rfl⟩ := hw'
              have HQ := Kp.mk wq.ok
              clear hne p0 d1 HRB
              generalize wq.w = wx at *
              have d2 : wx.cell? ⟨b, o + k, none⟩ = some (.int .i64 (mm : Int)) := (HQ.out.cell (p := ⟨b, o + k, none⟩) hbl2).trans HD.out
              have HBQ := Kp.mk (HBK.out.trans (HQ.out.mono hszk))
              go_wp2_with fail
              go_roundw
              case rel => exact ⟨k + 1, at' + mm, by omega, by go_num, HAN.out, by omega, by rw [HE2.out], by rw [HCT.out, ← HE1.out, ByteArray.append_assoc, ByteArray.append_assoc, ByteArray.append_assoc]; rfl, HPN.out, HSN.out, by rw [HF2.out]; congr 1; omega, HBQ.out⟩
              case measure => simp [intOf]; omega
        · have hkn : k = l.length := by omega
          subst hkn
          have hfe : FB = decide ((s.size : Int) - (at' : Int) = 0) := by rw [HFK.out, List.drop_of_length_le (Nat.le_refl _)]; rfl
          have HCL := Kp.mk (show chS (cutL s 0 (l.take l.length)) = chS (cutL s 0 l) by rw [List.take_length])
          rw [HCL.out] at hcz2 ⊢
          generalize chS (cutL s 0 l) = X at *
          by_cases hes : at' = s.size
          · have hFB : FB = true := by rw [hfe, hes]; simp
            have hS1 : s.extract at' s.size = ⟨#[]⟩ := (ByteArray.size_eq_zero_iff.1 (by rw [hse, hes]; omega)).trans rfl
            rw [hS1]
            clear hse hS1 hfe
            have HFT := Kp.mk hFB
            clear hFB
            go_wp2_with fail
            go_loopw [13] (fun vj wj => ∃ j : Nat, j ≤ T.length ∧ vj = .int .i64 j ∧ anyW (T.take j) = false ∧ Below w.heap.size w wj) (fun vj _ => T.length - (intOf vj).toNat)
            case atStart => exact ⟨0, Nat.zero_le _, rfl, rfl, HBK.out⟩
            case round =>
              obtain ⟨j, hj, rfl, haw, hbj⟩ := hrel
              have HAW := Kp.mk haw
              have HBJ := Kp.mk hbj
              have hszj := hbj.size
              clear haw hbj
              by_cases hlj : j < T.length
              · obtain ⟨b, o, rfl, hbl, d⟩ := rdf_cells (HT.out.below HBJ.out) (by omega)
                obtain ⟨d0, d1⟩ := d j hlj
                have HS := Kp.mk (HZ.out _ (List.getElem_mem hlj))
                have HTK := Kp.mk (anyW_take hlj)
                have HHT := Kp.mk (anyW_hit hlj)
                clear d
                generalize T[j] = f at *
                obtain ⟨x, y⟩ := f
                dsimp only [FldQ] at d0 d1 HS HTK HHT
                have hx1 := HS.out.1
                have hx2 := HS.out.2
                have HRR := Kp.mk (fun W => rfright_any x y W (by omega) (by omega))
                have q3 : (j : Int) < (T.length : Int) := by omega
                have q2 : (0 : Int) ≤ (j : Int) := by omega
                generalize fRight x y = r at *
                cases r
                · have hA := HHT.out rfl
                  have hE : RE = 7 := (HBE.out.trans (if_neg (by rw [HFT.out]; rintro (h | ⟨h, _⟩); cases h; exact h rfl))).trans (if_pos hA)
                  have hT2 : RT = ⟨#[]⟩ := HBT.out.trans (if_pos (by rw [hE]; omega))
                  subst hE hT2
                  clear hA
                  go_wp2_with fail
                  refine (HRR.out _).mono ?_
                  rintro e w7 ⟨rfl, hb7⟩
                  have HB7 := Kp.mk (HBJ.out.trans (hb7.mono hszj))
                  clear hb7
                  go_wp2_with fail
                  exact bodyPost_ret (v := .tuple #[.string ⟨#[]⟩, .int .i64 7]) (by simp [results, Try.results22, go_sem]) rfl ⟨rfl, HB7.out⟩
                · have HA2 := Kp.mk (show anyW (T.take (j + 1)) = false by rw [HTK.out, HAW.out]; rfl)
                  go_wp2_with fail
                  refine (HRR.out _).mono ?_
                  rintro e w7 ⟨rfl, hb7⟩
                  have HB7 := Kp.mk (HBJ.out.trans (hb7.mono hszj))
                  clear hb7
                  go_wp2_with fail
                  go_roundw
                  case rel => exact ⟨j + 1, by omega, by go_num, HA2.out, HB7.out⟩
                  case measure => simp [intOf]; omega
              · have hA : anyW T = false := by have := HAW.out; rwa [List.take_of_length_le (by omega)] at this
                have hE : RE = 0 := (HBE.out.trans (if_neg (by rw [HFT.out]; rintro (h | ⟨h, _⟩); cases h; exact h rfl))).trans (if_neg (by rw [hA]; simp))
                have hT2 : RT = X ++ lstF T := (HBT.out.trans (if_neg (by rw [hE]; omega))).trans (if_neg (by simp))
                subst hE
                have HRT := Kp.mk hT2
                have HLS := Kp.mk (HLA.out _ HBJ.out)
                have hls : (lstF T).size ≤ 20000 := by
                  unfold lstF
                  rw [ByteArray.size_append, crlf_size]
                  have h1 := trlF_size (lineS 0) T HZ.out
                  have h2 := lineS_size 0
                  omega
                clear hA hT2
                generalize lstF T = Z at *
                go_wp2_with fail
                refine HLS.out.mono ?_
                rintro e w7 ⟨rfl, hb7⟩
                have HB7 := Kp.mk (HBJ.out.trans (hb7.mono hszj))
                clear hb7
                go_wp2_with fail
                exact bodyPost_ret (v := .tuple #[.string (X ++ Z), .int .i64 0]) (by simp [results, Try.results22, go_sem]) rfl ⟨by rw [HRT.out], HB7.out⟩
          · have hFB : FB = false := by rw [hfe]; exact decide_eq_false (by omega)
            have hE : RE = 14 := HBE.out.trans (if_pos (.inl hFB))
            have hT2 : RT = ⟨#[]⟩ := HBT.out.trans (if_pos (by rw [hE]; omega))
            subst hE hT2
            have hs0 : ¬ (s.extract at' s.size).size = 0 := by omega
            generalize s.extract at' s.size = S1 at *
            have hx2 : ¬ S1.toList = [] := fun e => hs0 (by rw [ba_size', ← ByteArray.toList_eq, e]; rfl)
            have hx3 : S1.toList.isEmpty = false := by rw [List.isEmpty_eq_false_iff]; exact hx2
            clear hFB hfe hse hs0
            go_wp2_with fail
            exact bodyPost_ret (v := .tuple #[.string ⟨#[]⟩, .int .i64 14]) (by simp [results, Try.results22, go_sem]) rfl ⟨rfl, HBK.out⟩
    · have t0 : (kind != 2) = true := by rw [bne_iff_ne]; exact hk
      have hFB := HF1.out hk h0
      subst hFB
      cases FB
      · have hE : RE = 14 := HBE.out.trans (if_pos (.inl rfl))
        have hT2 : RT = ⟨#[]⟩ := HBT.out.trans (if_pos (by rw [hE]; omega))
        subst hE hT2
        go_wp2_with fail
        exact bodyPost_ret (v := .tuple #[.string ⟨#[]⟩, .int .i64 14]) (by simp [results, Try.results22, go_sem]) rfl ⟨rfl, HB.out⟩
      · by_cases hn1 : 0 < l.length
        · have hE : RE = 14 := HBE.out.trans (if_pos (.inr ⟨hk, by omega⟩))
          have hT2 : RT = ⟨#[]⟩ := HBT.out.trans (if_pos (by rw [hE]; omega))
          subst hE hT2
          have t1 : (0 : Int) < (l.length : Int) := by omega
          go_wp2_with fail
          exact bodyPost_ret (v := .tuple #[.string ⟨#[]⟩, .int .i64 14]) (by simp [results, Try.results22, go_sem]) rfl ⟨rfl, HB.out⟩
        · by_cases hn2 : 0 < T.length
          · have hE : RE = 14 := HBE.out.trans (if_pos (.inr ⟨hk, by omega⟩))
            have hT2 : RT = ⟨#[]⟩ := HBT.out.trans (if_pos (by rw [hE]; omega))
            subst hE hT2
            have t1 : ¬ (0 : Int) < (l.length : Int) := by omega
            have t2 : (0 : Int) < (T.length : Int) := by omega
            go_wp2_with fail
            exact bodyPost_ret (v := .tuple #[.string ⟨#[]⟩, .int .i64 14]) (by simp [results, Try.results22, go_sem]) rfl ⟨rfl, HB.out⟩
          · have hTn : T = [] := List.length_eq_zero_iff.1 (by omega)
            have hE : RE = 0 := (HBE.out.trans (if_neg (by rintro (h | ⟨_, h⟩); cases h; omega))).trans (if_neg (by rw [hTn]; simp [anyW]))
            have hT2 : RT = s := (HBT.out.trans (if_neg (by rw [hE]; omega))).trans (if_pos hk)
            subst hE hT2
            have t1 : ¬ (0 : Int) < (l.length : Int) := by omega
            have t2 : ¬ (0 : Int) < (T.length : Int) := by omega
            clear hTn
            go_wp2_with fail
            exact bodyPost_ret (v := .tuple #[.string RT, .int .i64 0]) (by simp [results, Try.results22, go_sem]) rfl ⟨rfl, HB.out⟩
end Go.Proofs.Ytpgnekejemockaa
