/- Words with parameters: the closure that takes one more (layer 8). · Words with parameters: Parse (layer 8). -/
import Derived.Test.YtkfpioadimkogaaGreatDoorPrc
import Derived.Outline
import Derived.Deep.RegionWith
namespace Go.Proofs.YtkfpioadimkogaaGreatDoor
open Go.RowKit
set_option linter.unusedVariables false
set_option linter.unusedSimpArgs false

theorem own_bl_ne {w : World} {base : Nat} {e t : TypeId} {size n g : Nat} {v : Value} {xs : List Value} {cs : Array Value} (h : w.ownsRow base e size v n xs) (hg : Bl w g t cs) (hne : e ≠ t) : v.ownBlock ≠ some g := by
  rcases h.2 with ⟨rfl, _⟩ | ⟨g', cap, cur, rfl, _, hh, _⟩
  · simp [Value.ownBlock]
  · intro he
    have : g' = g := by simpa [Value.ownBlock] using he
    subst this
    unfold Bl at hg
    rw [hg] at hh
    injection hh with hh
    injection hh with _ ht
    exact hne ht.symm
theorem own_slice {w : World} {base : Nat} {e : TypeId} {size n : Nat} {v : Value} {xs : List Value} (h : w.ownsRow base e size v n xs) (hn : 0 < n) : ∃ g cap, v = .slice (some ⟨g, 0, none⟩) n cap := by
  rcases h.2 with ⟨_, h0⟩ | ⟨g, cap, cur, rfl, _⟩
  · omega
  · exact ⟨g, cap, rfl⟩
theorem own_setP {w : World} {base : Nat} {e t : TypeId} {size n g : Nat} {v : Value} {xs : List Value} {cs : Array Value} (h : w.ownsRow base e size v n xs) (hg : Bl w g t cs) (hne : e ≠ t) (i : Nat) (u : Value) : (w.setCell ⟨g, i, none⟩ u).ownsRow base e size v n xs :=
  own_block h fun k hk => Below.heap_setCell _ _ _ _ (fun e => own_bl_ne h hg hne (by rw [hk]; exact congrArg some e))
theorem own_but {w w' : World} {base b : Nat} {e t : TypeId} {size n : Nat} {v : Value} {xs : List Value} {cs : Array Value} (h : w.ownsRow base e size v n xs) (hg : Bl w b t cs) (hne : e ≠ t) (hb : But b w w') : w'.ownsRow base e size v n xs :=
  own_block h fun k hk => hb.block k (h.lt k hk).2 (fun e => own_bl_ne h hg hne (by rw [hk, e]))
theorem Bl.grown {w w' : World} {g : Nat} {t : TypeId} {cs : Array Value} {row : Option Nat} (h : Bl w g t cs) (hg : w.grownBy w' row) (hne : row ≠ some g) : Bl w' g t cs := (hg.block g h.lt (fun e => hne e.symm)).trans h
theorem CurAt.bl {b n : Nat} {s : ByteArray} {w : World} (h : CurAt b s n w) : Bl w b 157 #[.string s, .int .i64 n] := h.blk
theorem CurAt.of_bl {b n : Nat} {s : ByteArray} {w w' : World} (h : CurAt b s n w) (hb : Bl w' b 157 #[.string s, .int .i64 n]) : CurAt b s n w' :=
  ⟨hb.cell 0, hb.cell 1, hb.free 1, hb.lt, h.le, h.small, hb⟩

theorem Tryz.infoP : (Tryz.prog.info? 175).map (fun i => (i.zero, i.size, i.bytes)) = some (some (.agg #[.string ⟨#[]⟩, .string ⟨#[]⟩]), 2, 32) := by kernel_rfl

/-- One parameter more behind a row of the call's own. -/
theorem app_par {P : Program} {wr : World} {ops : Array Oper} {rest : List Oper} {o : Oper} {a : Act} {Q : Exit → Act → World → Prop} (hgd : o.guard = none) (s x : Operand) (t e : TypeId)
    (ho : o.op = .call { callee := .builtin .append, args := #[s, x], argTypes := #[t, t] }) (ht : P.underlying t = some (.slice e))
    (hi : (P.info? e).map (fun i => (i.zero, i.size, i.bytes)) = some (some (.agg #[.string ⟨#[]⟩, .string ⟨#[]⟩]), 2, 32)) (B : Nat) (v : Value) (l : List Par) (hs : a.eval s = v) (hown : wr.ownsRow B e 2 v l.length (pcells l))
    (nm vl : ByteArray) (H : Nat) (hH : wr.heap.size = H) (hx : a.eval x = .slice (some ⟨H, 0, none⟩) 1 1) (hlen : l.length < 1099511627776) (hB : B ≤ wr.heap.size)
    (h : ∀ v' w', w'.ownsRow B e 2 v' (l ++ [(nm, vl)]).length (pcells (l ++ [(nm, vl)])) → Below B wr w' → (wr.alloc (.cells #[.string nm, .string vl] e)).grownBy w' v.ownBlock → wpList P ops Q rest (a.put o.dst v') w') :
    wpList P ops Q (o :: rest) a (wr.alloc (.cells #[.string nm, .string vl] e)) := by
  subst hH
  obtain ⟨i0, hi, hz0, hz1, hz2⟩ := info_parts hi
  refine wpList_append_own _ hgd s x t ho B e i0 (.agg #[.string ⟨#[]⟩, .string ⟨#[]⟩]) 2 32 ht hi hz0 hz1 hz2 rfl (by decide) v l.length (pcells l) hs (hown.alloc _) ⟨wr.heap.size, 0, none⟩ 1 1 [.string nm, .string vl] hx rfl ?_ (fun u hu => by simp at hu; rcases hu with rfl | rfl <;> rfl) (by unfold maxLen; omega) (by omega) (by simp; omega) ?_
  · intro j u hu
    rw [Addr.add_lit, World.cell?_alloc_at _ _ _ _ rfl]
    simpa using hu
  · intro v' w' h1 h2 _
    refine h v' w' ?_ (((Below.refl B wr).alloc hB _).grown h2 (by simp; omega) fun k hk => (hown.lt k hk).1) h2
    rw [pcells_snoc, List.length_append]
    exact h1

/-- What Parse keeps: the cursor's variable, the list's variable, the cursor. -/
structure TakeSt (B Bc Bv b : Nat) (s : ByteArray) (n : Nat) (l : List Par) (w : World) : Prop where
  cv : Bl w Bc 127 #[.pointer (some ⟨b, 0, none⟩)]
  lv : ∃ v, Bl w Bv 151 #[v] ∧ w.ownsRow B 175 2 v l.length (pcells l)
  cur : CurAt b s n w
  len : l.length ≤ n
theorem TakeSt.below {B Bc Bv b n : Nat} {s : ByteArray} {l : List Par} {w w' : World} (h : TakeSt B Bc Bv b s n l w) (hb : Below w.heap.size w w') : TakeSt B Bc Bv b s n l w' := by
  obtain ⟨v, h1, h2⟩ := h.lv
  exact ⟨h.cv.below hb, ⟨v, h1.below hb, own_below h2 hb⟩, h.cur.kept hb, h.len⟩

def TakePost (B Bc Bv b : Nat) (s : ByteArray) (n : Nat) (l : List Par) (w : World) (e : Ending) (w' : World) : Prop :=
  e = .returned (.bool (parOk (fromB s n))) ∧ Below B w w' ∧ (∃ v', Bl w' Bv 151 #[v']) ∧ ∃ m l', (parOk (fromB s n) = true → TakeSt B Bc Bv b s m l' w' ∧ m = n + parEnd (fromB s n) ∧ l' = l ++ [(parName (fromB s n), parVal (fromB s n))])

set_option maxRecDepth 100000 in
set_option maxHeartbeats 4000000 in
theorem take_any (B Bc Bv b n : Nat) (s : ByteArray) (l : List Par) (w : World) (h : TakeSt B Bc Bv b s n l w) (hB : B ≤ b ∧ B ≤ Bc ∧ B ≤ Bv ∧ B ≤ w.heap.size) (hne : Bc ≠ Bv ∧ Bc ≠ b ∧ Bv ≠ b) (hs : s.size ≤ 1000000) :
    Calls Tryz.prog 209 #[.pointer (some ⟨Bc, 0, none⟩), .pointer (some ⟨Bv, 0, none⟩)] w (TakePost B Bc Bv b s n l w) := by
  obtain ⟨v, hv1, hv2⟩ := h.lv
  have HC := Lib.hid h.cur
  have HCV := Lib.hid h.cv
  have HV1 := Lib.hid hv1
  have HV2 := Lib.hid hv2
  have hll := h.len
  have hle := h.cur.le
  obtain ⟨hB1, hB2, hB3, hB4⟩ := hB
  obtain ⟨hn1, hn2, hn3⟩ := hne
  have c0 : w.cell? ⟨Bc, 0, none⟩ = some (.pointer (some ⟨b, 0, none⟩)) := h.cv.cell 0
  have NE := Lib.hid (show 175 ≠ 151 ∧ 175 ≠ 127 ∧ 175 ≠ 157 by decide)
  clear h hv1 hv2
  go_enter Tryz.func209, Tryz.ntmps209
  go_wp2_with fail
  refine (one_any _ _ _ _ HC.out (by omega)).mono ?_
  rintro e w1 ⟨nm, vl, m, rfl, ht, hok⟩
  have HOK := Lib.hid hok
  have HB1 := Lib.hid ht.1
  have HC1 := Lib.hid ht.2
  have HCV1 := Lib.hid (HCV.out.but ht.1 hn2)
  have HV11 := Lib.hid (HV1.out.but ht.1 hn3)
  have HV21 := Lib.hid (own_but HV2.out HC.out.bl NE.out.2.2 ht.1)
  have hsz := ht.1.size
  have hlt1 := HV11.out.lt
  clear hok ht c0
  have c1 : (w1.alloc (.cells #[.string nm, .string vl] 175)).cell? ⟨Bv, 0, none⟩ = some v := (HV11.out.alloc _).cell 0
  have hown := HV21.out.alloc (.cells #[.string nm, .string vl] 175)
  have hBw : B ≤ (w1.alloc (.cells #[.string nm, .string vl] 175)).heap.size := by simp; omega
  generalize hok2 : parOk (fromB s n) = okb at *
  have HOB := Lib.hid hok2
  clear hok2
  go_wp2_with (at_builtin; refine app_par rfl _ _ _ _ rfl Tryz.underlying151 Tryz.infoP B _ l rfl hown nm vl (w1.heap.size + 1) (by simp) rfl (by omega) hBw ?_; intro v' w2 hown2 hb2 hg2; obtain ⟨g2, cp2, rfl⟩ := own_slice hown2 (by simp); have HV12 := Lib.hid (((HV11.out.alloc _).alloc _).grown hg2 (own_bl_ne hown (HV11.out.alloc _) NE.out.1)); have q1 := HV12.out.free 0; have q2 := HV12.out.cell 0; have q3 := HV12.out.lt)
  go_ret
  refine ⟨by rw [HOB.out]; rfl, ?_, ⟨_, HV12.out.set 0 _⟩, m, l ++ [(nm, vl)], fun hx => ?_⟩
  · have h1 : Below B w (w1.alloc (.cells #[.string nm, .string vl] 175)) := (HB1.out.below hB1 hB4).alloc (by omega) _
    exact (h1.trans hb2).setCell hB3 _
  · obtain ⟨rfl, rfl, rfl⟩ := HOK.out (by rw [← HOB.out]; exact hx)
    have hcv2 := ((HCV1.out.alloc (.cells #[.string (parName (fromB s n)), .string (parVal (fromB s n))] 175)).alloc (.cells #[.string (parName (fromB s n)), .string (parVal (fromB s n))] 175)).grown hg2 (own_bl_ne hown (HCV1.out.alloc _) NE.out.2.1)
    have hcu2 := ((HC1.out.bl.alloc (.cells #[.string (parName (fromB s n)), .string (parVal (fromB s n))] 175)).alloc (.cells #[.string (parName (fromB s n)), .string (parVal (fromB s n))] 175)).grown hg2 (own_bl_ne hown (HC1.out.bl.alloc _) NE.out.2.2)
    have hpe := parEnd_le (x := fromB s n) hx
    refine ⟨⟨hcv2.far (by simpa using hn1) _, ⟨_, HV12.out.set 0 _, (by simpa using own_setP hown2 HV12.out NE.out.1 0 (.slice (some ⟨g2, 0, none⟩) (l.length + 1) cp2))⟩, HC1.out.of_bl (hcu2.far (by simpa using hn3.symm) _), by simp; omega⟩, rfl, rfl⟩
end Go.Proofs.YtkfpioadimkogaaGreatDoor
namespace Go.Proofs.YtkfpioadimkogaaGreatDoor
open Go.RowKit
set_option linter.unusedVariables false
set_option linter.unusedSimpArgs false

theorem prmAll_emp {s : ByteArray} (h : s.size = 0) : prmAll s = (2, ⟨#[]⟩, []) := by unfold prmAll; rw [if_pos h]
theorem prmAll_no {s : ByteArray} (h : s.size ≠ 0) (h2 : preN tcharB s = 0 ∨ parsL (s.size + 1) (fromB s (preN tcharB s)) = none) : prmAll s = (3, ⟨#[]⟩, []) := by
  unfold prmAll; rw [if_neg h]
  by_cases h0 : preN tcharB s = 0
  · rw [if_pos h0]
  · rw [if_neg h0]
    rcases h2 with h2 | h2
    · exact absurd h2 h0
    · rw [h2]
theorem prmAll_yes {s : ByteArray} {l : List Par} (h : s.size ≠ 0) (h1 : 0 < preN tcharB s) (h2 : parsL (s.size + 1) (fromB s (preN tcharB s)) = some l) : prmAll s = (0, lowB (upB s (preN tcharB s)), l) := by
  unfold prmAll; rw [if_neg h, if_neg (by omega), h2]

def curN (w : World) (b : Nat) : Nat := match w.cell? ⟨b, 1, none⟩ with
  | some (.int _ k) => k.toNat
  | _ => 0
theorem CurAt.curN {b n : Nat} {s : ByteArray} {w : World} (h : CurAt b s n w) : curN w b = n := by unfold Proofs.YtkfpioadimkogaaGreatDoor.curN; rw [h.pos]; simp
def onB : Value → Nat | .bool true => 1 | _ => 0

/-- What Parse's loop keeps. -/
structure ParSt (B Bc Bv b : Nat) (s : ByteArray) (okb : Bool) (wr : World) : Prop where
  var : ∃ v, Bl wr Bv 151 #[v]
  yes : okb = true → 0 < preN tcharB s ∧ ∃ n l, TakeSt B Bc Bv b s n l wr ∧ parsL (s.size + 1) (fromB s (preN tcharB s)) = (parsL (s.size + 1) (fromB s n)).map (l ++ ·)
  no : okb = false → preN tcharB s = 0 ∨ parsL (s.size + 1) (fromB s (preN tcharB s)) = none

def ParPost (s : ByteArray) (w : World) (e : Ending) (w' : World) : Prop :=
  ∃ v, e = .returned (.tuple #[.string (prmAll s).2.1, v, .int .i64 (prmAll s).1]) ∧ w'.ownsRow w.heap.size 175 2 v (prmAll s).2.2.length (pcells (prmAll s).2.2) ∧ Below w.heap.size w w'

set_option maxRecDepth 100000 in
set_option maxHeartbeats 4000000 in
theorem parse_any (s : ByteArray) (w : World) (hs : s.size ≤ 1000000) :
    Calls Tryz.prog 178 #[.string s] w (ParPost s w) := by
  by_cases h0 : s.size = 0
  · have HP := Lib.hid (prmAll_emp h0)
    have he : s.toList = [] := tl_of_size h0
    clear h0
    go_enter Tryz.func178, Tryz.ntmps178
    go_wp2_with fail
    refine bodyPost_ret (v := .tuple #[.string ⟨#[]⟩, .slice none 0 0, .int .i64 2]) (by simp [results, Tryz.results178, go_sem]) rfl ⟨.slice none 0 0, by rw [HP.out], ?_, ?_⟩
    · rw [HP.out]; exact World.ownsRow_nil _ _ _ _
    · exact (Below.refl _ _).alloc (Nat.le_refl _) _
  · have he : s.toList.isEmpty = false := tl_ne_size (by omega)
    have H0 := Lib.hid h0
    clear h0
    have hmf : ∀ (fn : Fn) (first cap : Array Value) (w : World), (Instr.makeFunc fn first cap).run Tryz.prog w = .ok (.func fn first cap) w := fun _ _ _ _ => rfl
    go_enter Tryz.func178, Tryz.ntmps178
    go_wp2_with fail
    refine (cur_new _ _ (by omega)).mono ?_
    rintro e w1 ⟨rfl, hb1, hc1⟩
    have HC1 := Lib.hid (show CurAt (w.heap.size + 1) s 0 w1 by simpa using hc1)
    have HV1 := Lib.hid ((Bl.new w 151 #[.slice none 0 0]).below hb1)
    have HB1 := Lib.hid (below_thn ((Below.refl w.heap.size w).alloc (Nat.le_refl _) _) hb1)
    clear hb1 hc1
    have hz1 : w.heap.size + 1 < w1.heap.size := HC1.out.lt
    go_wp2_with fail
    refine (cur_token _ _ _ _ (HC1.out.alloc _)).mono ?_
    rintro e w2 ⟨rfl, ht2⟩
    rw [fromB_zero] at ht2 ⊢
    rw [Nat.zero_add] at ht2
    have HC2 := Lib.hid ht2.2
    have HV2 := Lib.hid ((HV1.out.alloc _).but ht2.1 (by omega))
    have HCV2 := Lib.hid ((Bl.new w1 127 #[.pointer (some ⟨w.heap.size + 1, 0, none⟩)]).but ht2.1 (by omega))
    have HB2 := Lib.hid ((HB1.out.alloc HB1.out.size _).trans (ht2.1.below (B := w.heap.size) (by omega) (by simp; omega)))
    clear ht2
    have hz2 : w1.heap.size < w2.heap.size := HCV2.out.lt
    have hstart : ParSt w.heap.size w1.heap.size w.heap.size (w.heap.size + 1) s (!(upB s (preN tcharB s)).toList.isEmpty) w2 := by
      refine ⟨⟨_, HV2.out⟩, fun h => ⟨?_, preN tcharB s, [], ⟨HCV2.out, ⟨_, HV2.out, World.ownsRow_nil _ _ _ _⟩, HC2.out, by simp⟩, ?_⟩, fun h => ?_⟩
      · rw [emp_iff, upB_size, Nat.min_eq_left (preN_le _ _)] at h
        simp at h; omega
      · cases parsL (s.size + 1) (fromB s (preN tcharB s)) <;> simp
      · rw [emp_iff, upB_size, Nat.min_eq_left (preN_le _ _)] at h
        simp at h
        left; omega
    have HST := Lib.hid hstart
    clear hstart
    have hwz : (upB s (preN tcharB s)).size ≤ 1000000 := by rw [upB_size]; omega
    obtain ⟨wd, hwd⟩ : ∃ wd, wd = upB s (preN tcharB s) := ⟨_, rfl⟩
    have HWD := Lib.hid hwd
    rw [← hwd] at HST hwz ⊢
    clear hwd
    obtain ⟨eb, heb⟩ : ∃ eb, wd.toList.isEmpty = eb := ⟨_, rfl⟩
    rw [heb] at HST
    have hee : wd.toList = [] ↔ eb = true := by rw [← heb]; simp
    go_wp2_with fail
    have HB2e := HB2
    go_loopw [8] (fun v wr => ∃ okb, v = .bool okb ∧ Below w.heap.size w wr ∧ ParSt w.heap.size w1.heap.size w.heap.size (w.heap.size + 1) s okb wr) (fun v wr => onB v * (2 + s.size - curN wr (w.heap.size + 1)))
    case atStart => exact ⟨_, rfl, HB2.out, HST.out⟩
    case round =>
      obtain ⟨okb, rfl, hbel, hst⟩ := hrel
      have HB := Lib.hid hbel
      have HSt := Lib.hid hst
      have hsz := hbel.size
      obtain ⟨vv, hvv⟩ := hst.var
      have HVV := Lib.hid hvv
      clear hbel hst hvv
      cases okb
      · have hv0 := HVV.out.free 0
        have hvl := HVV.out.lt
        have hvc := HVV.out.cell 0
        have HP := Lib.hid (prmAll_no H0.out (HSt.out.no rfl))
        go_wp2_with fail
        refine bodyPost_ret (v := .tuple #[.string ⟨#[]⟩, .slice none 0 0, .int .i64 3]) (by simp [results, Tryz.results178, go_sem, hvc, hvl]) rfl ⟨.slice none 0 0, by rw [HP.out], ?_, ?_⟩
        · rw [HP.out]; exact World.ownsRow_nil _ _ _ _
        · exact HB.out.setCell (Nat.le_refl _) _
      · obtain ⟨hk0, n, l, hts, hpl⟩ := HSt.out.yes rfl
        have HTS := Lib.hid hts
        have HPL := Lib.hid hpl
        have HK0 := Lib.hid hk0
        have hcn : curN wr (w.heap.size + 1) = n := hts.cur.curN
        have HCN := Lib.hid hcn
        have hc0 : wr.cell? ⟨w1.heap.size, 0, none⟩ = some (.pointer (some ⟨w.heap.size + 1, 0, none⟩)) := hts.cv.cell 0
        clear hts hpl hk0 hcn
        go_wp2_with fail
        refine (cur_done _ _ _ _ HTS.out.cur).mono ?_
        rintro e w3 ⟨rfl, hb3⟩
        have HTS3 := Lib.hid (HTS.out.below hb3)
        have HB3 := Lib.hid (HB.out.trans (hb3.mono hsz))
        have hsz3 := HB3.out.size
        have HV3 := Lib.hid (HVV.out.below hb3)
        clear hb3 hc0
        by_cases hd : (fromB s n).size = 0
        · obtain ⟨lv, hlv1, hlv2⟩ := HTS3.out.lv
          have HL1 := Lib.hid hlv1
          have HL2 := Lib.hid hlv2
          have HP := Lib.hid (prmAll_yes (l := l) H0.out HK0.out (by rw [HPL.out, parsL_end hd _ (by omega)]; simp))
          rw [decide_eq_true hd]
          clear hd
          have hform : lv = .slice none 0 0 ∨ ∃ g cap, lv = .slice (some ⟨g, 0, none⟩) l.length cap := by
            rcases hlv2.2 with ⟨h, _⟩ | ⟨g, cap, _, h, _⟩
            · exact .inl h
            · exact .inr ⟨g, cap, h⟩
          clear hlv1 hlv2
          rcases hform with rfl | ⟨g, cap, rfl⟩
          all_goals
            have r0 : w3.drew.cell? ⟨w.heap.size, 0, none⟩ = some _ := HL1.out.cell 0
            go_wp2_with fail
            first | go_region_with (go_at_call 88; refine (oct_lower_any _ _ (by omega)).mono ?_; rintro e w5 ⟨rfl, hb5⟩; have r1 := (Bl.below (w := w3.drew) HL1.out hb5).cell 0; have r2 := (Bl.below (w := w3.drew) HL1.out hb5).free 0; have r3 := (Bl.below (w := w3.drew) HL1.out hb5).lt; have HL5 := Lib.hid (own_below (w := w3.drew) HL2.out hb5)) | fail
            all_goals
              go_wp2_with fail
              refine bodyPost_ret (v := .tuple #[.string (lowB wd), _, .int .i64 0]) (by simp [results, Tryz.results178, go_sem, r1, r3]; rfl) rfl ⟨_, by rw [HP.out, HWD.out], ?_, ?_⟩
              · rw [HP.out]; exact own_setP HL5.out (Bl.below (w := w3.drew) HL1.out hb5) (by decide) _ _
              · exact (HB3.out.drew.trans (hb5.mono hsz3)).setCell (Nat.le_refl _) _
        · rw [decide_eq_false hd]
          have HD := Lib.hid hd
          have hc3 : w3.cell? ⟨w1.heap.size, 0, none⟩ = some (.pointer (some ⟨w.heap.size + 1, 0, none⟩)) := HTS3.out.cv.cell 0
          clear hd
          go_wp2_with fail
          refine (take_any _ _ _ _ _ _ _ _ HTS3.out ⟨by omega, by omega, by omega, by omega⟩ ⟨by omega, by omega, by omega⟩ (by omega)).mono ?_
          rintro e w4 ⟨rfl, hb4, hv4, m, l', h4⟩
          have HB4 := Lib.hid (HB3.out.trans hb4)
          have HV4 := Lib.hid hv4
          have H4 := Lib.hid h4
          clear hb4 hv4 h4
          cases hok : parOk (fromB s n)
          · have HOK := Lib.hid hok
            clear hok
            go_wp2_with fail
            go_roundw
            case rel => exact ⟨false, rfl, HB4.out, ⟨HV4.out, (fun h => by cases h), fun _ => .inr (by rw [HPL.out, parsL_no HD.out HOK.out]; rfl)⟩⟩
            case measure => rw [HCN.out]; have := HTS.out.cur.le; simp [onB]; omega
          · have HOK := Lib.hid hok
            obtain ⟨q1, q2, q3⟩ := H4.out hok
            have hpe := parEnd_le hok
            rw [fromB_size] at hpe
            have HQ1 := Lib.hid q1
            have HQ2 := Lib.hid q2
            have HQ3 := Lib.hid q3
            clear hok q1 q2 q3
            go_wp2_with fail
            go_roundw
            case rel =>
              refine ⟨true, rfl, HB4.out, ⟨HV4.out, fun _ => ⟨HK0.out, m, l', HQ1.out, ?_⟩, fun h => by cases h⟩⟩
              rw [HPL.out, parsL_step HD.out HOK.out _ (by rw [fromB_size]; omega), HQ3.out, HQ2.out, fromB_from]
              cases parsL (s.size + 1) (fromB s (n + parEnd (fromB s n))) <;> simp
            case measure =>
              rw [HCN.out, HQ1.out.cur.curN, HQ2.out]
              simp [onB]; omega
end Go.Proofs.YtkfpioadimkogaaGreatDoor
