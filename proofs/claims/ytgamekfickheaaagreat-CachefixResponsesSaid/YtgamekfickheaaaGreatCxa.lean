/- What is said to caches of another version (layer 31): plain, and the program's parts (bin/mkcxa.py). -/
import Derived.Test.YtgamekfickheaaaGreatDtj
import Derived.Test.YtgamekfickheaaaGreatCcp
import Derived.Test.YtgamekfickheaaaGreatHdi
namespace Go.Proofs.YtgamekfickheaaaGreat
open Go.RowKit
set_option linter.unusedVariables false
set_option linter.unusedSimpArgs false

def nmEX : ByteArray := ⟨#[69, 120, 112, 105, 114, 101, 115]⟩
def nmDT : ByteArray := ⟨#[68, 97, 116, 101]⟩
def vNS : ByteArray := ⟨#[110, 111, 45, 115, 116, 111, 114, 101]⟩
def vPV : ByteArray := ⟨#[112, 114, 105, 118, 97, 116, 101]⟩
def vMX : ByteArray := ⟨#[109, 97, 120, 45, 97, 103, 101, 61]⟩
def cPr (l : List Fld) : Bool := hasB (hJoin (hAll l nmPR)) vNC
def cHas (l : List Fld) (nm : ByteArray) : Bool := decide (0 ≤ fdI (ccD l) nm)
def cHd (l : List Fld) : Bool := cHas l vNC || (cHas l vNS || cHas l vPV)
/-- One field behind all, if it is wanted, none is there, and there is something to say. -/
def adL (m : List Fld) (b : Bool) (n x : ByteArray) : List Fld := if (b && (!hIs m n && decide (x.size ≠ 0))) = true then m ++ [(n, x)] else m
theorem adL_no {m : List Fld} {n x : ByteArray} : adL m false n x = m := rfl
theorem adL_is {m : List Fld} {n x : ByteArray} (h : hIs m n = true) : adL m true n x = m := by unfold adL; rw [h]; rfl
theorem adL_emp {m : List Fld} {b : Bool} {n x : ByteArray} (h : x.size = 0) : adL m b n x = m := by unfold adL; rw [if_neg]; simp [h]
theorem adL_yes {m : List Fld} {n x : ByteArray} (h : hIs m n = false) (hx : x.size ≠ 0) : adL m true n x = m ++ [(n, x)] := by unfold adL; rw [h, if_pos]; simp [hx]
theorem adL_cases (m : List Fld) (b : Bool) (n x : ByteArray) : adL m b n x = m ∨ (adL m b n x = m ++ [(n, x)] ∧ b = true ∧ hIs m n = false ∧ x.size ≠ 0) := by
  cases b
  · exact .inl rfl
  · cases h : hIs m n
    · by_cases hx : x.size = 0
      · exact .inl (adL_emp hx)
      · exact .inr ⟨adL_yes h hx, rfl, rfl, hx⟩
    · exact .inl (adL_is h)
theorem adL_len (m : List Fld) (b : Bool) (n x : ByteArray) : m.length ≤ (adL m b n x).length ∧ (adL m b n x).length ≤ m.length + 1 := by
  rcases adL_cases m b n x with h | ⟨h, _⟩ <;> rw [h] <;> simp
theorem adL_sm {m : List Fld} {b : Bool} {n x : ByteArray} (h : ∀ p ∈ m, FldSm p) (hn : n.size ≤ 100000) (hx : x.size ≤ 100000) : ∀ p ∈ adL m b n x, FldSm p := by
  rcases adL_cases m b n x with e | ⟨e, _⟩ <;> rw [e]
  · exact h
  · intro p hp
    rcases List.mem_append.1 hp with hp | hp
    · exact h p hp
    · obtain rfl := List.mem_singleton.1 hp; exact ⟨hn, hx⟩
def reqL (l : List Fld) (f t : Int) : List Fld := adL (adL l (decide (f ≤ 0) && (decide (0 < t) && cPr l)) nmCC vNC) (decide (0 < f) && (decide (t ≤ 0) && cHas l vNC)) nmPR vNC
noncomputable def datS (l : List Fld) (nm : ByteArray) (now : Int) : Int × Bool := ((parP now (hGet l nm).data.toList).1, decide ((parP now (hGet l nm).data.toList).2.2 = 0))
noncomputable def basI (l : List Fld) (now : Int) : Int := if (datS l nmDT now).2 = true then (datS l nmDT now).1 else now
/-- What Expires says. -/
noncomputable def expV (l : List Fld) (now : Int) : ByteArray := if cHd l = true then prtB (basI l now) else prtB (IntKind.i64.wrap (basI l now + (ageR (ccD l)).1))
noncomputable def staI (l : List Fld) (now : Int) : Int := max 0 (min ((datS l nmEX now).1 - (datS l nmDT now).1) 2147483647)
/-- What max-age says. -/
noncomputable def freV (l : List Fld) (now : Int) : ByteArray := if ((datS l nmDT now).2 && (datS l nmEX now).2) = true then vMX ++ ofL (textL (staI l now)) else ⟨#[]⟩
noncomputable def res2 (l : List Fld) (d : Bool) (now : Int) : List Fld := adL (adL l (d && cHd l) nmPR vNC) (d && (cHd l || (ageR (ccD l)).2)) nmEX (expV l now)
noncomputable def res4 (l m : List Fld) (u : Bool) (now : Int) : List Fld := adL (adL m (u && cPr l) nmCC vNC) u nmCC (freV l now)
noncomputable def resL (l : List Fld) (f t now : Int) : List Fld := res4 l (res2 l (decide (0 < f) && decide (t ≤ 0)) now) (decide (f ≤ 0) && decide (0 < t)) now
theorem hGet_size {l : List Fld} {c : Nat} (h : ∀ p ∈ l, p.2.size ≤ c) (nm : ByteArray) : (hGet l nm).size ≤ c := by
  unfold hGet
  cases ha : hAll l nm with
  | nil => exact Nat.zero_le _
  | cons a t =>
    have : a ∈ hAll l nm := by rw [ha]; exact List.mem_cons_self ..
    obtain ⟨p, hp, rfl⟩ := List.mem_map.1 this
    exact h p (List.mem_filter.1 hp).1
theorem parP_zero {now : Int} {L : List UInt8} (h : (parP now L).2.2 = 0) : placeB ((parP now L).1 / 86400) = true := by
  unfold parP at h ⊢
  split
  · rename_i hp
    rw [if_pos hp] at h
    exact parF_place now L _ h
  · rename_i hp
    rw [if_neg hp] at h
    exact absurd h (by decide)
theorem datS_ok {l : List Fld} {nm : ByteArray} {now : Int} (h : (datS l nm now).2 = true) : -100000000000 ≤ (datS l nm now).1 ∧ (datS l nm now).1 ≤ 1000000000000 := by
  have h1 := parP_zero (of_decide_eq_true h)
  have h2 : -719162 ≤ (parP now (hGet l nm).data.toList).1 / 86400 ∧ (parP now (hGet l nm).data.toList).1 / 86400 ≤ 2932896 := by simpa [placeB] using h1
  have h3 : -719162 ≤ (datS l nm now).1 / 86400 ∧ (datS l nm now).1 / 86400 ≤ 2932896 := h2
  clear h1 h2
  omega
theorem ofL_mx (s : ByteArray) : ofL s.data.toList = s := ba_ext (by simp [ofL])
/-- The box of what is added to. -/
structure MX (bx : Nat) (v : Value) (m : List Fld) (W : World) : Prop where
  hb : W.heap[bx]? = some (.cells #[v] 22 (0, 0))
  rd : RdF W v m
  ne : v.ownBlock ≠ some bx
theorem MX.below {bx : Nat} {v : Value} {m : List Fld} {W W' : World} (h : MX bx v m W) (hb : Below W.heap.size W W') : MX bx v m W' :=
  ⟨(hb.block _ (blk_lt h.hb)).trans h.hb, h.rd.below hb, h.ne⟩
set_option maxRecDepth 100000 in
set_option maxHeartbeats 1000000 in
theorem cloneX_any (v : Value) (l : List Fld) (w : World) (hv : RdF w v l) (hl : l.length ≤ 10000) :
    Calls Tryz.prog 28 #[v] w (RetF l w) := by
  have hBA := (Below.refl w.heap.size w).alloc (Nat.le_refl _) (.cells #[] 32)
  have HVA := Kp.mk (hv.below hBA)
  have HO := Kp.mk (World.ownsRow_lit (base := w.heap.size) (e := 32) (size := 2) w #[] 0 (Nat.le_refl _) (by unfold maxLen; omega) rfl)
  have HBA := Kp.mk hBA
  have hszA : w.heap.size ≤ (w.alloc (.cells #[] 32)).heap.size := hBA.size
  have hlen0 : (0 + l.length) * 32 ≤ 140737488355328 := by omega
  have hmx0 : 0 + l.length ≤ maxLen := by unfold maxLen; omega
  obtain ⟨a, cap, rfl, -, -, h4⟩ := hv
  clear hBA
  cases a with
  | none =>
    have h0 : l = [] := by
      rcases Nat.eq_zero_or_pos l.length with h0 | h0
      · exact List.eq_nil_of_length_eq_zero h0
      · obtain ⟨b, off, hb, _⟩ := h4 h0
        cases hb
    subst h0
    clear h4
    have hE : ∀ w : World, (binOp .eql 22 (.slice none 0 cap) (.slice none 0 0)).run Tryz.prog w = .ok (.bool true) w := fun w => by kernel_rfl
    go_enter Tryz.func28, Tryz.ntmps28
    go_wp2_with fail
    go_ret
    exact ⟨_, rfl, World.ownsRow_nil _ _ _ _, Below.refl _ _⟩
  | some ad =>
    clear h4
    have hE : ∀ w : World, (binOp .eql 22 (.slice (some ad) l.length cap) (.slice none 0 0)).run Tryz.prog w = .ok (.bool false) w := fun w => by kernel_rfl
    go_enter Tryz.func28, Tryz.ntmps28
    go_wp2_with (at_builtin; refine app_flds rfl _ _ _ _ rfl Tryz.underlying22 _ Tryz.infoFH rfl w.heap.size _ 0 _ rfl HO.out _ rfl l HVA.out hlen0 hmx0 hszA ?_; intro v1 w1 h1 h2; rw [Nat.zero_add] at h1; have HB1 := Kp.mk (HBA.out.grown h2 hszA fun k hk => (HO.out.lt k hk).1); have HO1 := Kp.mk h1; clear h1 h2)
    go_ret
    exact ⟨_, rfl, HO1.out, HB1.out⟩
theorem emp_ofX {v : ByteArray} (h : v.size = 0) : v = ⟨#[]⟩ := by
  refine ba_ext ?_
  have h2 : v.data.toList.length = 0 := by rw [← ba_size']; exact h
  exact List.eq_nil_of_length_eq_zero h2
theorem emp_neX {v : ByteArray} (h : v.size ≠ 0) : v.toList.isEmpty = false ∧ ¬ (v.toList = []) := by
  have h2 : ¬ v.toList = [] := by
    rw [ByteArray.toList_eq]
    intro e
    have : v.data.toList = [] := by simpa using e
    exact h (by rw [ba_size', this]; rfl)
  exact ⟨by cases hv : v.toList with | nil => exact absurd hv h2 | cons a t => rfl, h2⟩
theorem rdf_form {w : World} {v : Value} {l : List Fld} (h : RdF w v l) : ∃ a c, v = .slice a l.length c := by
  obtain ⟨a, c, h1, _⟩ := h
  exact ⟨a, c, h1⟩
theorem cxno_any (w : World) : Calls Tryz.prog 14 #[] w fun e w' => e = .returned (.string vNC) ∧ Below w.heap.size w w' := by
  go_enter Tryz.func14, Tryz.ntmps14
  go_wp2_with fail
  go_ret
  exact ⟨rfl, Below.refl _ _⟩
set_option maxRecDepth 100000 in
set_option maxHeartbeats 2000000 in
theorem cxadd_no (b : Bool) (n x : ByteArray) (bx : Nat) (v : Value) (m : List Fld) (w : World) (h : MX bx v m w) (hz : ∀ p ∈ m, FldSm p) (hl : m.length ≤ 1000) (hn : n.size ≤ 100000)
    (hval : (b && !hIs m n) = true → ∀ w', Below w.heap.size w w' → Calls Tryz.prog 14 #[] w' fun e w'' => e = .returned (.string x) ∧ Below w'.heap.size w' w'') :
    Calls Tryz.prog 30 #[.bool b, .string n, .func (.func 14) #[] #[], .pointer (some ⟨bx, 0, none⟩)] w fun e w' => e = .returned (.tuple #[]) ∧ ∃ v', MX bx v' (adL m b n x) w' ∧ Onl bx none w w' := by
  have H := Kp.mk h
  have HV := Kp.mk hval
  have HZ := Kp.mk hz
  have c0 := blk_cell (i := 0) h.hb rfl
  have hbx := blk_lt h.hb
  clear h hval hz
  cases b
  · have HA := Kp.mk (show adL m false n x = m from rfl)
    go_enter Tryz.func30, Tryz.ntmps30
    go_wp2_with fail
    first | go_end0 | refine bodyPost_ret (v := .tuple #[]) (by simp [results, Tryz.results30, go_sem]) rfl ?_
    exact ⟨rfl, v, by rw [HA.out]; exact H.out, Onl.refl _ _ _⟩
  · go_enter Tryz.func30, Tryz.ntmps30
    go_wp2_with fail
    refine (hcount_any v m n _ H.out.rd HZ.out (by omega) hn).mono ?_
    rintro e w1 ⟨rfl, hb1⟩
    have HB1 := Kp.mk hb1
    have H1 := Kp.mk (H.out.below hb1)
    clear hb1
    have HIS := Kp.mk (show hIs m n = decide (0 < (hAll m n).length) from rfl)
    generalize (hAll m n).length = cn at *
    cases hi : hIs m n
    · have q0 : ¬ (0 : Int) < (cn : Int) := by have := HIS.out; rw [hi] at this; have := of_decide_eq_false this.symm; omega
      have HA1 := Kp.mk (fun hx => adL_yes (m := m) (n := n) (x := x) hi hx)
      have HA2 := Kp.mk (fun hx => adL_emp (m := m) (b := true) (n := n) (x := x) hx)
      have HV2 := Kp.mk (HV.out (by rw [hi]; rfl))
      clear HV HIS hi
      go_wp2_with fail
      refine (HV2.out _ HB1.out).mono ?_
      rintro e w2 ⟨rfl, hb2⟩
      have HB2 := Kp.mk (HB1.out.trans (hb2.mono HB1.out.size))
      have H2 := Kp.mk (H1.out.below hb2)
      have d0 := blk_cell (i := 0) H2.out.hb rfl
      have g0 := blk_free (i := 0) H2.out.hb
      clear hb2 c0
      by_cases hx : x.size = 0
      · obtain rfl : x = ⟨#[]⟩ := emp_ofX hx
        have HA := Kp.mk (HA2.out hx)
        go_wp2_with fail
        first | go_end0 | refine bodyPost_ret (v := .tuple #[]) (by simp [results, Tryz.results30, go_sem]) rfl ?_
        exact ⟨rfl, v, by rw [HA.out]; exact H2.out, Onl.of HB2.out⟩
      · obtain ⟨t1, t2⟩ := emp_neX hx
        have HA := Kp.mk (HA1.out hx)
        go_wp2_with fail
        refine (hwith_any v m n x _ H2.out.rd (by omega)).mono ?_
        rintro e w3 ⟨u, rfl, ho, hb3⟩
        have HB3 := Kp.mk (HB2.out.trans (hb3.mono HB2.out.size))
        have H3 := Kp.mk (H2.out.below hb3)
        have RU := Kp.mk (rdf_own ho)
        have NU := Kp.mk (show ∀ k, u.ownBlock = some k → k ≠ bx from fun k hk => by have h1 := (ho.lt k hk).1; have h2 := blk_lt H2.out.hb; omega)
        have e0 := blk_cell (i := 0) H3.out.hb rfl
        have g3 := blk_free (i := 0) H3.out.hb
        clear ho hb3 d0 g0
        obtain ⟨au, cu, hu⟩ := rdf_form RU.out
        have hu2 : u = .slice au (m.length + 1) cu := by rw [hu, List.length_append]; rfl
        clear hu
        subst hu2
        go_wp2_with fail
        first | go_end0 | refine bodyPost_ret (v := .tuple #[]) (by simp [results, Tryz.results30, go_sem]) rfl ?_
        refine ⟨rfl, _, ⟨blk_set H3.out.hb _, ?_, fun hk => NU.out bx hk rfl⟩, (Onl.of HB3.out).setCell _ _⟩
        rw [HA.out]
        exact RU.out.stays (by simp [World.setCell]) fun k hk hv => Below.heap_setCell _ _ _ _ (NU.out k hv)
    · have q0 : (0 : Int) < (cn : Int) := by have := HIS.out; rw [hi] at this; have := of_decide_eq_true this.symm; omega
      have HA := Kp.mk (adL_is (m := m) (n := n) (x := x) hi)
      go_wp2_with fail
      first | go_end0 | refine bodyPost_ret (v := .tuple #[]) (by simp [results, Tryz.results30, go_sem]) rfl ?_
      exact ⟨rfl, v, by rw [HA.out]; exact H1.out, Onl.of HB1.out⟩
set_option maxRecDepth 100000 in
set_option maxHeartbeats 2000000 in
theorem cxadd_1 (b : Bool) (n x : ByteArray) (k0 k1 k2 k3 : Nat) (bx : Nat) (v : Value) (m : List Fld) (w : World) (h : MX bx v m w) (hz : ∀ p ∈ m, FldSm p) (hl : m.length ≤ 1000) (hn : n.size ≤ 100000)
    (hval : (b && !hIs m n) = true → ∀ w', Below w.heap.size w w' → Calls Tryz.prog 21 #[.pointer (some ⟨k0, 0, none⟩), .pointer (some ⟨k1, 0, none⟩), .pointer (some ⟨k2, 0, none⟩), .pointer (some ⟨k3, 0, none⟩)] w' fun e w'' => e = .returned (.string x) ∧ Below w'.heap.size w' w'') :
    Calls Tryz.prog 30 #[.bool b, .string n, .func (.func 21) #[] #[.pointer (some ⟨k0, 0, none⟩), .pointer (some ⟨k1, 0, none⟩), .pointer (some ⟨k2, 0, none⟩), .pointer (some ⟨k3, 0, none⟩)], .pointer (some ⟨bx, 0, none⟩)] w fun e w' => e = .returned (.tuple #[]) ∧ ∃ v', MX bx v' (adL m b n x) w' ∧ Onl bx none w w' := by
  have H := Kp.mk h
  have HV := Kp.mk hval
  have HZ := Kp.mk hz
  have c0 := blk_cell (i := 0) h.hb rfl
  have hbx := blk_lt h.hb
  clear h hval hz
  cases b
  · have HA := Kp.mk (show adL m false n x = m from rfl)
    go_enter Tryz.func30, Tryz.ntmps30
    go_wp2_with fail
    first | go_end0 | refine bodyPost_ret (v := .tuple #[]) (by simp [results, Tryz.results30, go_sem]) rfl ?_
    exact ⟨rfl, v, by rw [HA.out]; exact H.out, Onl.refl _ _ _⟩
  · go_enter Tryz.func30, Tryz.ntmps30
    go_wp2_with fail
    refine (hcount_any v m n _ H.out.rd HZ.out (by omega) hn).mono ?_
    rintro e w1 ⟨rfl, hb1⟩
    have HB1 := Kp.mk hb1
    have H1 := Kp.mk (H.out.below hb1)
    clear hb1
    have HIS := Kp.mk (show hIs m n = decide (0 < (hAll m n).length) from rfl)
    generalize (hAll m n).length = cn at *
    cases hi : hIs m n
    · have q0 : ¬ (0 : Int) < (cn : Int) := by have := HIS.out; rw [hi] at this; have := of_decide_eq_false this.symm; omega
      have HA1 := Kp.mk (fun hx => adL_yes (m := m) (n := n) (x := x) hi hx)
      have HA2 := Kp.mk (fun hx => adL_emp (m := m) (b := true) (n := n) (x := x) hx)
      have HV2 := Kp.mk (HV.out (by rw [hi]; rfl))
      clear HV HIS hi
      go_wp2_with fail
      refine (HV2.out _ HB1.out).mono ?_
      rintro e w2 ⟨rfl, hb2⟩
      have HB2 := Kp.mk (HB1.out.trans (hb2.mono HB1.out.size))
      have H2 := Kp.mk (H1.out.below hb2)
      have d0 := blk_cell (i := 0) H2.out.hb rfl
      have g0 := blk_free (i := 0) H2.out.hb
      clear hb2 c0
      by_cases hx : x.size = 0
      · obtain rfl : x = ⟨#[]⟩ := emp_ofX hx
        have HA := Kp.mk (HA2.out hx)
        go_wp2_with fail
        first | go_end0 | refine bodyPost_ret (v := .tuple #[]) (by simp [results, Tryz.results30, go_sem]) rfl ?_
        exact ⟨rfl, v, by rw [HA.out]; exact H2.out, Onl.of HB2.out⟩
      · obtain ⟨t1, t2⟩ := emp_neX hx
        have HA := Kp.mk (HA1.out hx)
        go_wp2_with fail
        refine (hwith_any v m n x _ H2.out.rd (by omega)).mono ?_
        rintro e w3 ⟨u, rfl, ho, hb3⟩
        have HB3 := Kp.mk (HB2.out.trans (hb3.mono HB2.out.size))
        have H3 := Kp.mk (H2.out.below hb3)
        have RU := Kp.mk (rdf_own ho)
        have NU := Kp.mk (show ∀ k, u.ownBlock = some k → k ≠ bx from fun k hk => by have h1 := (ho.lt k hk).1; have h2 := blk_lt H2.out.hb; omega)
        have e0 := blk_cell (i := 0) H3.out.hb rfl
        have g3 := blk_free (i := 0) H3.out.hb
        clear ho hb3 d0 g0
        obtain ⟨au, cu, hu⟩ := rdf_form RU.out
        have hu2 : u = .slice au (m.length + 1) cu := by rw [hu, List.length_append]; rfl
        clear hu
        subst hu2
        go_wp2_with fail
        first | go_end0 | refine bodyPost_ret (v := .tuple #[]) (by simp [results, Tryz.results30, go_sem]) rfl ?_
        refine ⟨rfl, _, ⟨blk_set H3.out.hb _, ?_, fun hk => NU.out bx hk rfl⟩, (Onl.of HB3.out).setCell _ _⟩
        rw [HA.out]
        exact RU.out.stays (by simp [World.setCell]) fun k hk hv => Below.heap_setCell _ _ _ _ (NU.out k hv)
    · have q0 : (0 : Int) < (cn : Int) := by have := HIS.out; rw [hi] at this; have := of_decide_eq_true this.symm; omega
      have HA := Kp.mk (adL_is (m := m) (n := n) (x := x) hi)
      go_wp2_with fail
      first | go_end0 | refine bodyPost_ret (v := .tuple #[]) (by simp [results, Tryz.results30, go_sem]) rfl ?_
      exact ⟨rfl, v, by rw [HA.out]; exact H1.out, Onl.of HB1.out⟩
set_option maxRecDepth 100000 in
set_option maxHeartbeats 2000000 in
theorem cxadd_2 (b : Bool) (n x : ByteArray) (k0 k1 : Nat) (bx : Nat) (v : Value) (m : List Fld) (w : World) (h : MX bx v m w) (hz : ∀ p ∈ m, FldSm p) (hl : m.length ≤ 1000) (hn : n.size ≤ 100000)
    (hval : (b && !hIs m n) = true → ∀ w', Below w.heap.size w w' → Calls Tryz.prog 24 #[.pointer (some ⟨k0, 0, none⟩), .pointer (some ⟨k1, 0, none⟩)] w' fun e w'' => e = .returned (.string x) ∧ Below w'.heap.size w' w'') :
    Calls Tryz.prog 30 #[.bool b, .string n, .func (.func 24) #[] #[.pointer (some ⟨k0, 0, none⟩), .pointer (some ⟨k1, 0, none⟩)], .pointer (some ⟨bx, 0, none⟩)] w fun e w' => e = .returned (.tuple #[]) ∧ ∃ v', MX bx v' (adL m b n x) w' ∧ Onl bx none w w' := by
  have H := Kp.mk h
  have HV := Kp.mk hval
  have HZ := Kp.mk hz
  have c0 := blk_cell (i := 0) h.hb rfl
  have hbx := blk_lt h.hb
  clear h hval hz
  cases b
  · have HA := Kp.mk (show adL m false n x = m from rfl)
    go_enter Tryz.func30, Tryz.ntmps30
    go_wp2_with fail
    first | go_end0 | refine bodyPost_ret (v := .tuple #[]) (by simp [results, Tryz.results30, go_sem]) rfl ?_
    exact ⟨rfl, v, by rw [HA.out]; exact H.out, Onl.refl _ _ _⟩
  · go_enter Tryz.func30, Tryz.ntmps30
    go_wp2_with fail
    refine (hcount_any v m n _ H.out.rd HZ.out (by omega) hn).mono ?_
    rintro e w1 ⟨rfl, hb1⟩
    have HB1 := Kp.mk hb1
    have H1 := Kp.mk (H.out.below hb1)
    clear hb1
    have HIS := Kp.mk (show hIs m n = decide (0 < (hAll m n).length) from rfl)
    generalize (hAll m n).length = cn at *
    cases hi : hIs m n
    · have q0 : ¬ (0 : Int) < (cn : Int) := by have := HIS.out; rw [hi] at this; have := of_decide_eq_false this.symm; omega
      have HA1 := Kp.mk (fun hx => adL_yes (m := m) (n := n) (x := x) hi hx)
      have HA2 := Kp.mk (fun hx => adL_emp (m := m) (b := true) (n := n) (x := x) hx)
      have HV2 := Kp.mk (HV.out (by rw [hi]; rfl))
      clear HV HIS hi
      go_wp2_with fail
      refine (HV2.out _ HB1.out).mono ?_
      rintro e w2 ⟨rfl, hb2⟩
      have HB2 := Kp.mk (HB1.out.trans (hb2.mono HB1.out.size))
      have H2 := Kp.mk (H1.out.below hb2)
      have d0 := blk_cell (i := 0) H2.out.hb rfl
      have g0 := blk_free (i := 0) H2.out.hb
      clear hb2 c0
      by_cases hx : x.size = 0
      · obtain rfl : x = ⟨#[]⟩ := emp_ofX hx
        have HA := Kp.mk (HA2.out hx)
        go_wp2_with fail
        first | go_end0 | refine bodyPost_ret (v := .tuple #[]) (by simp [results, Tryz.results30, go_sem]) rfl ?_
        exact ⟨rfl, v, by rw [HA.out]; exact H2.out, Onl.of HB2.out⟩
      · obtain ⟨t1, t2⟩ := emp_neX hx
        have HA := Kp.mk (HA1.out hx)
        go_wp2_with fail
        refine (hwith_any v m n x _ H2.out.rd (by omega)).mono ?_
        rintro e w3 ⟨u, rfl, ho, hb3⟩
        have HB3 := Kp.mk (HB2.out.trans (hb3.mono HB2.out.size))
        have H3 := Kp.mk (H2.out.below hb3)
        have RU := Kp.mk (rdf_own ho)
        have NU := Kp.mk (show ∀ k, u.ownBlock = some k → k ≠ bx from fun k hk => by have h1 := (ho.lt k hk).1; have h2 := blk_lt H2.out.hb; omega)
        have e0 := blk_cell (i := 0) H3.out.hb rfl
        have g3 := blk_free (i := 0) H3.out.hb
        clear ho hb3 d0 g0
        obtain ⟨au, cu, hu⟩ := rdf_form RU.out
        have hu2 : u = .slice au (m.length + 1) cu := by rw [hu, List.length_append]; rfl
        clear hu
        subst hu2
        go_wp2_with fail
        first | go_end0 | refine bodyPost_ret (v := .tuple #[]) (by simp [results, Tryz.results30, go_sem]) rfl ?_
        refine ⟨rfl, _, ⟨blk_set H3.out.hb _, ?_, fun hk => NU.out bx hk rfl⟩, (Onl.of HB3.out).setCell _ _⟩
        rw [HA.out]
        exact RU.out.stays (by simp [World.setCell]) fun k hk hv => Below.heap_setCell _ _ _ _ (NU.out k hv)
    · have q0 : (0 : Int) < (cn : Int) := by have := HIS.out; rw [hi] at this; have := of_decide_eq_true this.symm; omega
      have HA := Kp.mk (adL_is (m := m) (n := n) (x := x) hi)
      go_wp2_with fail
      first | go_end0 | refine bodyPost_ret (v := .tuple #[]) (by simp [results, Tryz.results30, go_sem]) rfl ?_
      exact ⟨rfl, v, by rw [HA.out]; exact H1.out, Onl.of HB1.out⟩
set_option maxRecDepth 100000 in
set_option maxHeartbeats 1000000 in
theorem cxdated_any (v : Value) (l : List Fld) (nm : ByteArray) (now : Int) (w : World) (hv : RdF w v l) (hF : FewF l) (hn : nm.size ≤ 100000) (n0 : -9223372036854775808 ≤ now) (n1 : now ≤ 9223372036854775807) :
    Calls Tryz.prog 22 #[v, .string nm, .int .i64 now] w fun e w' => e = .returned (.tuple #[.int .i64 (datS l nm now).1, .bool (datS l nm now).2]) ∧ Below w.heap.size w w' := by
  have HG := Kp.mk (hget_any v l nm w hv hF.sm (by have := hF.len; omega) hn)
  have hz := hGet_size (c := 1000) (fun p hp => (hF.val p hp).2) nm
  have HP := Kp.mk (fun w => hdparse_any now (hGet l nm).data.toList w (by rw [← ba_size']; omega) n0 n1)
  rw [ofL_mx] at HP
  have HD := Kp.mk (show datS l nm now = ((parP now (hGet l nm).data.toList).1, decide ((parP now (hGet l nm).data.toList).2.2 = 0)) from rfl)
  generalize datS l nm now = D at *
  generalize parP now (hGet l nm).data.toList = p at *
  generalize hGet l nm = G at *
  obtain ⟨p1, p2, p3⟩ := p
  obtain ⟨D1, D2⟩ := D
  have hD := HD.out
  cases hD
  unfold RetP at HP
  clear n0 n1 hv hF HD
  go_enter Tryz.func22, Tryz.ntmps22
  go_wp2_with fail
  refine HG.out.mono ?_
  rintro e w1 ⟨rfl, hb1⟩
  have HB1 := Kp.mk hb1
  clear hb1
  go_wp2_with fail
  refine (HP.out _).mono ?_
  rintro e w2 ⟨rfl, hb2⟩
  have HB2 := Kp.mk (HB1.out.trans (hb2.mono HB1.out.size))
  clear hb2
  by_cases h3 : p3 = 0
  · subst h3
    go_wp2_with fail
    go_ret2
    exact ⟨rfl, HB2.out⟩
  · have t3 : (p3 == 0) = false := by rw [beq_eq_false_iff_ne]; exact h3
    have HT := Kp.mk (show decide (p3 = 0) = false from decide_eq_false h3)
    go_wp2_with fail
    go_ret2
    exact ⟨by rw [HT.out]; rfl, HB2.out⟩
set_option maxRecDepth 100000 in
set_option maxHeartbeats 1000000 in
theorem cxfresh_any (v : Value) (l : List Fld) (now : Int) (w : World) (hv : RdF w v l) (hF : FewF l) (n0 : -9223372036854775808 ≤ now) (n1 : now ≤ 9223372036854775807) :
    Calls Tryz.prog 25 #[v, .int .i64 now] w fun e w' => e = .returned (.string (freV l now)) ∧ Below w.heap.size w w' := by
  have HV := Kp.mk hv
  have C1 := Kp.mk (fun w hv => cxdated_any v l nmDT now w hv hF (by decide) n0 n1)
  have C2 := Kp.mk (fun w hv => cxdated_any v l nmEX now w hv hF (by decide) n0 n1)
  have HF := Kp.mk (show freV l now = if ((datS l nmDT now).2 && (datS l nmEX now).2) = true then vMX ++ ofL (textL (max 0 (min ((datS l nmEX now).1 - (datS l nmDT now).1) 2147483647))) else ⟨#[]⟩ from rfl)
  have h1 := datS_ok (l := l) (nm := nmDT) (now := now)
  have h2 := datS_ok (l := l) (nm := nmEX) (now := now)
  generalize freV l now = FV at *
  generalize datS l nmDT now = D at *
  generalize datS l nmEX now = E at *
  obtain ⟨d1, d2⟩ := D
  obtain ⟨e1, e2⟩ := E
  dsimp only at h1 h2 HF C1 C2
  clear hv hF n0 n1
  go_enter Tryz.func25, Tryz.ntmps25
  go_wp2_with fail
  refine (C1.out _ HV.out).mono ?_
  rintro e w1 ⟨rfl, hb1⟩
  have HB1 := Kp.mk hb1
  have HV1 := Kp.mk (HV.out.below hb1)
  clear hb1
  go_wp2_with fail
  refine (C2.out _ HV1.out).mono ?_
  rintro e w2 ⟨rfl, hb2⟩
  have HB2 := Kp.mk (HB1.out.trans (hb2.mono HB1.out.size))
  clear hb2
  cases d2
  · go_wp2_with fail
    go_ret
    exact ⟨by rw [HF.out]; rfl, HB2.out⟩
  · cases e2
    · go_wp2_with fail
      go_ret
      exact ⟨by rw [HF.out]; rfl, HB2.out⟩
    · have h1 := h1 rfl
      have h2 := h2 rfl
      have hw : IntKind.i64.wrap (e1 - d1) = e1 - d1 := by simp [IntKind.wrap, IntKind.signed, IntKind.bits, wrap64]; omega
      have HF2 := Kp.mk (HF.out.trans (if_pos rfl))
      have hs : 0 ≤ max 0 (min (e1 - d1) 2147483647) ∧ max 0 (min (e1 - d1) 2147483647) ≤ 2147483647 := by omega
      have HT := Kp.mk (fun w => text_any (max 0 (min (e1 - d1) 2147483647)) w (by omega) (by omega))
      have hz : (ofL (textL (max 0 (min (e1 - d1) 2147483647)))).size ≤ 21 := by rw [ofL_size]; exact textL_len _
      clear HF h1 h2
      go_wp2_with fail
      refine (HT.out _).mono ?_
      rintro e w3 ⟨rfl, hb3⟩
      have HB3 := Kp.mk (HB2.out.trans (hb3.mono HB2.out.size))
      generalize ofL (textL (max 0 (min (e1 - d1) 2147483647))) = TX at *
      clear hb3
      go_wp2_with fail
      go_ret
      exact ⟨by rw [HF2.out]; rfl, HB3.out⟩
end Go.Proofs.YtgamekfickheaaaGreat
