/- Words with parameters: the closure that takes one more (layer 8). -/
import Derived.Test.YtjocmjmfkgogiaaPrc
import Derived.Outline
namespace Go.Proofs.Ytjocmjmfkgogiaa
open Go.RowKit
set_option linter.unusedVariables false
set_option linter.unusedSimpArgs false

theorem own_bl_ne {w : World} {base : Nat} {e t : TypeId} {size n g : Nat} {v : Value} {xs : List Value} {cs : Array Value} (h : w.ownsRow base e size v n xs) (hg : Bl w g t cs) (hne : e ≠ t) : v.ownBlock ≠ some g := by
  rcases h.2 with ⟨rfl, _⟩ | ⟨g', cap, cur, rfl, _, hh, _⟩
  · simp [Value.ownBlock]
  · intro he
    have : g' = g := by simpa [Value.ownBlock] using he
    subst this
    unfold Bl at hg
    rw [hg] at hh
    injection hh with hh
    injection hh with _ ht
    exact hne ht.symm
theorem own_slice {w : World} {base : Nat} {e : TypeId} {size n : Nat} {v : Value} {xs : List Value} (h : w.ownsRow base e size v n xs) (hn : 0 < n) : ∃ g cap, v = .slice (some ⟨g, 0, none⟩) n cap := by
  rcases h.2 with ⟨_, h0⟩ | ⟨g, cap, cur, rfl, _⟩
  · omega
  · exact ⟨g, cap, rfl⟩
theorem own_set {w : World} {base : Nat} {e t : TypeId} {size n g : Nat} {v : Value} {xs : List Value} {cs : Array Value} (h : w.ownsRow base e size v n xs) (hg : Bl w g t cs) (hne : e ≠ t) (i : Nat) (u : Value) : (w.setCell ⟨g, i, none⟩ u).ownsRow base e size v n xs :=
  own_block h fun k hk => Below.heap_setCell _ _ _ _ (fun e => own_bl_ne h hg hne (by rw [hk]; exact congrArg some e))
theorem own_but {w w' : World} {base b : Nat} {e t : TypeId} {size n : Nat} {v : Value} {xs : List Value} {cs : Array Value} (h : w.ownsRow base e size v n xs) (hg : Bl w b t cs) (hne : e ≠ t) (hb : But b w w') : w'.ownsRow base e size v n xs :=
  own_block h fun k hk => hb.block k (h.lt k hk).2 (fun e => own_bl_ne h hg hne (by rw [hk, e]))
theorem Bl.grown {w w' : World} {g : Nat} {t : TypeId} {cs : Array Value} {row : Option Nat} (h : Bl w g t cs) (hg : w.grownBy w' row) (hne : row ≠ some g) : Bl w' g t cs := (hg.block g h.lt (fun e => hne e.symm)).trans h
theorem CurAt.bl {b n : Nat} {s : ByteArray} {w : World} (h : CurAt b s n w) : Bl w b 73 #[.string s, .int .i64 n] := h.blk
theorem CurAt.of_bl {b n : Nat} {s : ByteArray} {w w' : World} (h : CurAt b s n w) (hb : Bl w' b 73 #[.string s, .int .i64 n]) : CurAt b s n w' :=
  ⟨hb.cell 0, hb.cell 1, hb.free 1, hb.lt, h.le, h.small, hb⟩

theorem Try.infoP : (Try.prog.info? 49).map (fun i => (i.zero, i.size, i.bytes)) = some (some (.agg #[.string ⟨#[]⟩, .string ⟨#[]⟩]), 2, 32) := by kernel_rfl

/-- One parameter more behind a row of the call's own. -/
theorem app_par {P : Program} {wr : World} {ops : Array Oper} {rest : List Oper} {o : Oper} {a : Act} {Q : Exit → Act → World → Prop} (hgd : o.guard = none) (s x : Operand) (t e : TypeId)
    (ho : o.op = .call { callee := .builtin .append, args := #[s, x], argTypes := #[t, t] }) (ht : P.underlying t = some (.slice e))
    (hi : (P.info? e).map (fun i => (i.zero, i.size, i.bytes)) = some (some (.agg #[.string ⟨#[]⟩, .string ⟨#[]⟩]), 2, 32)) (B : Nat) (v : Value) (l : List Par) (hs : a.eval s = v) (hown : wr.ownsRow B e 2 v l.length (pcells l))
    (nm vl : ByteArray) (H : Nat) (hH : wr.heap.size = H) (hx : a.eval x = .slice (some ⟨H, 0, none⟩) 1 1) (hlen : l.length < 1099511627776) (hB : B ≤ wr.heap.size)
    (h : ∀ v' w', w'.ownsRow B e 2 v' (l ++ [(nm, vl)]).length (pcells (l ++ [(nm, vl)])) → Below B wr w' → (wr.alloc (.cells #[.string nm, .string vl] e)).grownBy w' v.ownBlock → wpList P ops Q rest (a.put o.dst v') w') :
    wpList P ops Q (o :: rest) a (wr.alloc (.cells #[.string nm, .string vl] e)) := by
  subst hH
  obtain ⟨i0, hi, hz0, hz1, hz2⟩ := info_parts hi
  refine wpList_append_own _ hgd s x t ho B e i0 (.agg #[.string ⟨#[]⟩, .string ⟨#[]⟩]) 2 32 ht hi hz0 hz1 hz2 rfl (by decide) v l.length (pcells l) hs (hown.alloc _) ⟨wr.heap.size, 0, none⟩ 1 1 [.string nm, .string vl] hx rfl ?_ (fun u hu => by simp at hu; rcases hu with rfl | rfl <;> rfl) (by unfold maxLen; omega) (by omega) (by simp; omega) ?_
  · intro j u hu
    rw [Addr.add_lit, World.cell?_alloc_at _ _ _ _ rfl]
    simpa using hu
  · intro v' w' h1 h2 _
    refine h v' w' ?_ (((Below.refl B wr).alloc hB _).grown h2 (by simp; omega) fun k hk => (hown.lt k hk).1) h2
    rw [pcells_snoc, List.length_append]
    exact h1

/-- What Parse keeps: the cursor's variable, the list's variable, the cursor. -/
structure TakeSt (B Bc Bv b : Nat) (s : ByteArray) (n : Nat) (l : List Par) (w : World) : Prop where
  cv : Bl w Bc 23 #[.pointer (some ⟨b, 0, none⟩)]
  lv : ∃ v, Bl w Bv 39 #[v] ∧ w.ownsRow B 49 2 v l.length (pcells l)
  cur : CurAt b s n w
  len : l.length ≤ n
theorem TakeSt.below {B Bc Bv b n : Nat} {s : ByteArray} {l : List Par} {w w' : World} (h : TakeSt B Bc Bv b s n l w) (hb : Below w.heap.size w w') : TakeSt B Bc Bv b s n l w' := by
  obtain ⟨v, h1, h2⟩ := h.lv
  exact ⟨h.cv.below hb, ⟨v, h1.below hb, own_below h2 hb⟩, h.cur.kept hb, h.len⟩

def TakePost (B Bc Bv b : Nat) (s : ByteArray) (n : Nat) (l : List Par) (w : World) (e : Ending) (w' : World) : Prop :=
  e = .returned (.bool (parOk (fromB s n))) ∧ Below B w w' ∧ (∃ v', Bl w' Bv 39 #[v']) ∧ ∃ m l', (parOk (fromB s n) = true → TakeSt B Bc Bv b s m l' w' ∧ m = n + parEnd (fromB s n) ∧ l' = l ++ [(parName (fromB s n), parVal (fromB s n))])

set_option maxRecDepth 100000 in
set_option maxHeartbeats 4000000 in
theorem take_any (B Bc Bv b n : Nat) (s : ByteArray) (l : List Par) (w : World) (h : TakeSt B Bc Bv b s n l w) (hB : B ≤ b ∧ B ≤ Bc ∧ B ≤ Bv ∧ B ≤ w.heap.size) (hne : Bc ≠ Bv ∧ Bc ≠ b ∧ Bv ≠ b) (hs : s.size ≤ 1000000) :
    Calls Try.prog 66 #[.pointer (some ⟨Bc, 0, none⟩), .pointer (some ⟨Bv, 0, none⟩)] w (TakePost B Bc Bv b s n l w) := by
  obtain ⟨v, hv1, hv2⟩ := h.lv
  have HC := Lib.hid h.cur
  have HCV := Lib.hid h.cv
  have HV1 := Lib.hid hv1
  have HV2 := Lib.hid hv2
  have hll := h.len
  have hle := h.cur.le
  obtain ⟨hB1, hB2, hB3, hB4⟩ := hB
  obtain ⟨hn1, hn2, hn3⟩ := hne
  have c0 : w.cell? ⟨Bc, 0, none⟩ = some (.pointer (some ⟨b, 0, none⟩)) := h.cv.cell 0
  have NE := Lib.hid (show 49 ≠ 39 ∧ 49 ≠ 23 ∧ 49 ≠ 73 by decide)
  clear h hv1 hv2
  go_enter Try.func66, Try.ntmps66
  go_wp2_with fail
  refine (one_any _ _ _ _ HC.out (by omega)).mono ?_
  rintro e w1 ⟨nm, vl, m, rfl, ht, hok⟩
  have HOK := Lib.hid hok
  have HB1 := Lib.hid ht.1
  have HC1 := Lib.hid ht.2
  have HCV1 := Lib.hid (HCV.out.but ht.1 hn2)
  have HV11 := Lib.hid (HV1.out.but ht.1 hn3)
  have HV21 := Lib.hid (own_but HV2.out HC.out.bl NE.out.2.2 ht.1)
  have hsz := ht.1.size
  have hlt1 := HV11.out.lt
  clear hok ht c0
  have c1 : (w1.alloc (.cells #[.string nm, .string vl] 49)).cell? ⟨Bv, 0, none⟩ = some v := (HV11.out.alloc _).cell 0
  have hown := HV21.out.alloc (.cells #[.string nm, .string vl] 49)
  have hBw : B ≤ (w1.alloc (.cells #[.string nm, .string vl] 49)).heap.size := by simp; omega
  generalize hok2 : parOk (fromB s n) = okb at *
  have HOB := Lib.hid hok2
  clear hok2
  go_wp2_with (at_builtin; refine app_par rfl _ _ _ _ rfl Try.underlying39 Try.infoP B _ l rfl hown nm vl (w1.heap.size + 1) (by simp) rfl (by omega) hBw ?_; intro v' w2 hown2 hb2 hg2; obtain ⟨g2, cp2, rfl⟩ := own_slice hown2 (by simp); have HV12 := Lib.hid (((HV11.out.alloc _).alloc _).grown hg2 (own_bl_ne hown (HV11.out.alloc _) NE.out.1)); have q1 := HV12.out.free 0; have q2 := HV12.out.cell 0; have q3 := HV12.out.lt)
  go_ret
  refine ⟨by rw [HOB.out]; rfl, ?_, ⟨_, HV12.out.set 0 _⟩, m, l ++ [(nm, vl)], fun hx => ?_⟩
  · have h1 : Below B w (w1.alloc (.cells #[.string nm, .string vl] 49)) := (HB1.out.below hB1 hB4).alloc (by omega) _
    exact (h1.trans hb2).setCell hB3 _
  · obtain ⟨rfl, rfl, rfl⟩ := HOK.out (by rw [← HOB.out]; exact hx)
    have hcv2 := ((HCV1.out.alloc (.cells #[.string (parName (fromB s n)), .string (parVal (fromB s n))] 49)).alloc (.cells #[.string (parName (fromB s n)), .string (parVal (fromB s n))] 49)).grown hg2 (own_bl_ne hown (HCV1.out.alloc _) NE.out.2.1)
    have hcu2 := ((HC1.out.bl.alloc (.cells #[.string (parName (fromB s n)), .string (parVal (fromB s n))] 49)).alloc (.cells #[.string (parName (fromB s n)), .string (parVal (fromB s n))] 49)).grown hg2 (own_bl_ne hown (HC1.out.bl.alloc _) NE.out.2.2)
    have hpe := parEnd_le (x := fromB s n) hx
    refine ⟨⟨hcv2.far (by simpa using hn1) _, ⟨_, HV12.out.set 0 _, (by simpa using own_set hown2 HV12.out NE.out.1 0 (.slice (some ⟨g2, 0, none⟩) (l.length + 1) cp2))⟩, HC1.out.of_bl (hcu2.far (by simpa using hn3.symm) _), by simp; omega⟩, rfl, rfl⟩
end Go.Proofs.Ytjocmjmfkgogiaa
