/- What is said to caches (layer 21): Parse, the program's. · What is said to caches (layer 21): what fields say: Control, find, Has, Pragma. · What is said to caches (layer 21): Has, Age, Pragma; the document's example. · What is said to caches (layer 21): the document's example. -/
import Derived.Test.YtgamekfickheaaaGreatCcy
import Derived.Test.YtgamekfickheaaaGreatCcc
import Derived.Test.YtgamekfickheaaaGreatHdf
import Derived.Test.YtgamekfickheaaaGreatTxt
namespace Go.Proofs.YtgamekfickheaaaGreat
open Go.RowKit
set_option linter.unusedVariables false
set_option linter.unusedSimpArgs false

theorem one21_any (s : ByteArray) (w : World) (hs : s.size ≤ 1000000) :
    Calls Tryz.prog 89 #[.string s] w fun e w' => e = .returned (.tuple #[.agg #[.string (nmD s), .string (vlD s), .bool (setD s)], .bool (okD s)]) ∧ Below w.heap.size w w' := by
  by_cases hset : dN s < s.size ∧ bt s (dN s) = 61
  · by_cases hk : dK s = 0
    · exact one21_quo s w hs hset hk
    · exact one21_tok s w hs hset hk
  · exact one21_no s w hs hset
theorem pone21_any (s : ByteArray) (w : World) (hs : s.size ≤ 1000000) : Calls Tryz.prog 89 #[.string s] w (OnePostD s w) := by
  refine (one21_any s w hs).mono ?_
  rintro e w' ⟨rfl, hb⟩
  exact ⟨nmD s, vlD s, setD s, rfl, fun _ => ⟨rfl, rfl, rfl⟩, hb⟩
set_option maxRecDepth 100000 in
set_option maxHeartbeats 4000000 in
theorem parse21_in (v : ByteArray) (w : World) (hvz : v.size ≤ 100000000) (hz : ∀ x ∈ splL v, x.size ≤ 100000) : Calls Tryz.prog 63 #[.string v] w (RetD v w) := by
  have hln := splL_len v
  have HZ := Kp.mk hz
  clear hz
  have HHT := Kp.mk (fun (k : Nat) (h : k < (splL v).length) hf => prs_hit (v := v) h hf)
  have HEN := Kp.mk (fun (k : Nat) (h : (splL v).length ≤ k) hf => prs_end (v := v) h hf)
  go_enter Tryz.func63, Tryz.ntmps63
  go_wp2_with fail
  refine (split_any v _ (by omega)).mono ?_
  rintro e w2 ⟨u, rfl, ho, hb2⟩
  have HB2 := Kp.mk hb2
  have HR := Kp.mk (rds_own ho)
  obtain ⟨a, c, rfl⟩ := own_lenH ho
  clear ho hb2
  cases hob : splB v
  · obtain ⟨e1, e2⟩ := prs_none hob
    have E1 := Kp.mk e1
    have E2 := Kp.mk e2
    clear e1 e2
    go_wp2_with fail
    go_ret2
    exact ⟨.slice none 0 0, by rw [E1.out]; rfl, by rw [E2.out]; exact World.ownsRow_nil _ _ _ _, HB2.out⟩
  rw [hob] at HEN
  clear hob
  generalize splL v = L at *
  go_wp2_with fail
  go_loopw [6, 20] (fun ov i wr => ∃ k : Nat, k ≤ L.length ∧ i = .int .i64 k ∧ okU L k ∧ wr.ownsRow w2.heap.size 57 3 ov (dirP L k).length (dvH (dirP L k)) ∧ Below w2.heap.size w2 wr) (fun _ i _ => L.length - (intOf i).toNat)
  case atStart => exact ⟨0, by omega, rfl, fun j _ h => by omega, World.ownsRow_nil _ _ _ _, Below.refl _ _⟩
  case round =>
    obtain ⟨k, hk, rfl, hok, hown, hb⟩ := hrel
    obtain ⟨av, cv, rfl⟩ := own_lenH hown
    have HOK := Kp.mk hok
    have HOW := Kp.mk hown
    have HB := Kp.mk hb
    have HBW := Kp.mk (HB2.out.trans (hb.mono HB2.out.size))
    have hle := dirP_len L k
    clear hok hown hb
    by_cases hlt : k < L.length
    · obtain ⟨g, o, rfl, hgl, d0⟩ := rds_cells (HR.out.below HB.out) (by omega)
      have c1 := d0 k hlt
      have m1 := HZ.out L[k] (List.getElem_mem hlt)
      have q0 : (0 : Int) ≤ (k : Int) := by omega
      have q1 : (k : Int) < (L.length : Int) := by omega
      have HST := Kp.mk (dirP_step hlt)
      have HHit := Kp.mk (HHT.out k hlt)
      have HN := Kp.mk (fun (ht : okD L[k] = true) => show okU L (k + 1) from fun j hj h => by
        by_cases hjk : j = k
        · subst hjk; exact ht
        · exact HOK.out j hj (by omega))
      clear d0
      generalize L[k] = x at *
      have HP := Kp.mk (fun W => pone21_any x W (by omega))
      unfold OnePostD at HP
      have HDO := Kp.mk (show dirOf x = (nmD x, vlD x, setD x) from rfl)
      generalize dirP L k = P at *
      have hlen : (P.length + 1) * 40 ≤ 140737488355328 := by omega
      have hmx : P.length + 1 ≤ maxLen := by unfold maxLen; omega
      go_wp2_with fail
      refine (HP.out _).mono ?_
      rintro e w4 ⟨nm, vl, st, rfl, hval, hb4⟩
      have HVA := Kp.mk hval
      have HB4 := Kp.mk (HB.out.trans (hb4.mono HB.out.size))
      have HB4W := Kp.mk (HBW.out.trans (hb4.mono HBW.out.size))
      have HO4 := Kp.mk ((own_bel HOW.out hb4).alloc (.cells #[.string nm, .string vl, .bool st] 57))
      have hsz4 : w2.heap.size ≤ w4.heap.size := HB4.out.size
      have hszX : w2.heap.size ≤ (w4.alloc (.cells #[.string nm, .string vl, .bool st] 57)).heap.size := by simp; omega
      have HBX := Kp.mk (HB4.out.alloc hsz4 (.cells #[.string nm, .string vl, .bool st] 57))
      have HBXW := Kp.mk (HB4W.out.alloc HB4W.out.size (.cells #[.string nm, .string vl, .bool st] 57))
      clear hval hb4 c1
      cases hod : okD x
      · obtain ⟨e1, e2⟩ := HHit.out hod
        have E1 := Kp.mk e1
        have E2 := Kp.mk e2
        clear e1 e2
        go_wp2_with fail
        go_ret2
        exact ⟨.slice none 0 0, by rw [E1.out]; rfl, by rw [E2.out]; exact World.ownsRow_nil _ _ _ _, HBXW.out⟩
      · obtain ⟨y1, y2, y3⟩ := HVA.out hod
        have HY := Kp.mk (show dirOf x = (nm, vl, st) by rw [HDO.out, y1, y2, y3])
        have HN2 := Kp.mk (HN.out hod)
        clear y1 y2 y3
        go_wp2_with (at_builtin; refine app_any rfl _ _ _ _ rfl Tryz.underlying52 _ _ _ Tryz.infoDi rfl (by omega) w2.heap.size _ _ _ rfl HO4.out #[.string nm, .string vl, .bool st] rfl (fun u hu => by simp at hu; rcases hu with rfl | rfl | rfl <;> rfl) (w4.heap.size + 1) (by simp) rfl hlen hmx hszX ?_; intro g9 cap9 w9 h1 h2 h3; have G3 := Kp.mk h1; have G4 := Kp.mk (grown_bel HO4.out hszX h2); clear h1 h2 h3)
        go_roundw
        case rel =>
          refine ⟨k + 1, by omega, by go_num, HN2.out, ?_, HBX.out.trans G4.out⟩
          rw [HST.out, List.length_append, dvH_snoc, HY.out]
          exact G3.out
        case measure => simp [intOf]; omega
    · obtain ⟨e1, e2⟩ := HEN.out k (by omega) HOK.out
      have E1 := Kp.mk e1
      have E2 := Kp.mk e2
      clear e1 e2
      go_wp2_with fail
      go_ret2
      refine ⟨.slice av (dirP L k).length cv, by rw [E1.out]; rfl, ?_, HBW.out⟩
      rw [E2.out]
      exact own_low HOW.out HB2.out.size
theorem parse21_any (v : ByteArray) (w : World) (hvz : v.size ≤ 100000) : Calls Tryz.prog 63 #[.string v] w (RetD v w) :=
  parse21_in v w (by omega) fun x h => by have h1 := (splL_mem h).2; omega
end Go.Proofs.YtgamekfickheaaaGreat
namespace Go.Proofs.YtgamekfickheaaaGreat
open Go.RowKit
set_option linter.unusedVariables false
set_option linter.unusedSimpArgs false

def nmCC : ByteArray := ⟨#[67, 97, 99, 104, 101, 45, 67, 111, 110, 116, 114, 111, 108]⟩
def nmPR : ByteArray := ⟨#[80, 114, 97, 103, 109, 97]⟩
def vNC : ByteArray := ⟨#[110, 111, 45, 99, 97, 99, 104, 101]⟩
/-- P21.2: the directives of the fields Cache-Control. -/
def ccD (l : List Fld) : List Dir := prs (hJoin (hAll l nmCC))
def fdN (L : List Dir) (nm : ByteArray) : Nat := L.findIdx fun d => foldB d.1 nm
def fdI (L : List Dir) (nm : ByteArray) : Int := if fdN L nm < L.length then (fdN L nm : Int) else -1
theorem fdI_at {L : List Dir} {nm : ByteArray} {k : Nat} (h : k < L.length) (hf : foldB L[k].1 nm = true) (hn : ∀ (j : Nat) (hj : j < L.length), j < k → foldB L[j].1 nm = false) : fdI L nm = k := by
  have e : fdN L nm = k := (List.findIdx_eq h).2 ⟨hf, fun j hj => hn j (by omega) hj⟩
  unfold fdI
  rw [e, if_pos h]
theorem fdI_no {L : List Dir} {nm : ByteArray} (hn : ∀ (j : Nat) (hj : j < L.length), j < L.length → foldB L[j].1 nm = false) : fdI L nm = -1 := by
  have e : fdN L nm = L.length := List.findIdx_eq_length.2 fun x hx => by
    obtain ⟨j, hj, rfl⟩ := List.getElem_of_mem hx
    exact hn j hj hj
  unfold fdI
  rw [e, if_neg (Nat.lt_irrefl _)]
def RetDl (L : List Dir) (w : World) (e : Ending) (w' : World) : Prop := ∃ u, e = .returned u ∧ w'.ownsRow w.heap.size 57 3 u L.length (dvH L) ∧ Below w.heap.size w w'
set_option maxRecDepth 100000 in
set_option maxHeartbeats 1000000 in
theorem control_any (vl : Value) (l : List Fld) (w : World) (hv : RdF w vl l) (hF : FewF l) : Calls Tryz.prog 36 #[vl] w (RetDl (ccD l) w) := by
  have hvz : (hJoin (hAll l nmCC)).size ≤ 50100 := hF.comb nmCC
  have HV := Kp.mk hv
  have HS := Kp.mk hF.sm
  have hl5 := hF.len
  have HP := Kp.mk (fun W => parse21_any (hJoin (hAll l nmCC)) W (by omega))
  unfold RetD at HP
  clear hF hv
  go_enter Tryz.func36, Tryz.ntmps36
  go_wp2_with fail
  refine (hcomb_any vl l nmCC _ HV.out HS.out (by omega) (by decide)).mono ?_
  rintro e w1 ⟨rfl, hb1⟩
  have HB1 := Kp.mk hb1
  clear hb1
  obtain ⟨D, hD⟩ : ∃ D, D = ccD l := ⟨_, rfl⟩
  have HDE := Kp.mk hD
  have hD2 : prs (hJoin (hAll l nmCC)) = D := hD.symm
  rw [hD2] at HP
  clear hD hD2
  generalize hJoin (hAll l nmCC) = v at *
  generalize hIs l nmCC = hi at *
  generalize prsOk v = ob at *
  go_wp2_with fail
  refine (HP.out _).mono ?_
  rintro e w2 ⟨u, rfl, ho, hb2⟩
  have HB2 := Kp.mk (HB1.out.trans (hb2.mono HB1.out.size))
  have HO := Kp.mk (own_low ho HB1.out.size)
  obtain ⟨a, c, rfl⟩ := own_lenH ho
  clear ho hb2
  go_wp2_with fail
  go_ret
  exact ⟨.slice a D.length c, rfl, by rw [← HDE.out]; exact HO.out, HB2.out⟩
set_option maxHeartbeats 1000000 in
theorem cfd1_any (d : Dir) (bx : Nat) (nm : ByteArray) (w : World) (hx : w.heap[bx]? = some (.cells #[.string nm] 9 (0, 0))) (hd : d.1.size ≤ 1000000) (hn : nm.size ≤ 1000000) :
    Calls Tryz.prog 62 #[.agg #[.string d.1, .string d.2.1, .bool d.2.2], .pointer (some ⟨bx, 0, none⟩)] w fun e w' => e = .returned (.bool (foldB d.1 nm)) ∧ Below w.heap.size w w' := by
  obtain ⟨x, y, b⟩ := d
  have HBA := Kp.mk ((Below.refl w.heap.size w).alloc (Nat.le_refl _) (.cells #[.string x, .string y, .bool b] 57))
  have HXA := Kp.mk (blk_alloc (o2 := .cells #[.string x, .string y, .bool b] 57) hx)
  have c0 := blk_cell (i := 0) HXA.out rfl
  have c1 := blk_cell (i := 0) hx rfl
  have hbl := blk_lt hx
  dsimp only at hd
  go_enter Tryz.func62, Tryz.ntmps62
  go_wp2_with fail
  refine (oct_fold_any x nm _ (by omega) (by omega)).mono ?_
  rintro e w2 ⟨rfl, hb2⟩
  have HB2 := Kp.mk (HBA.out.trans (hb2.mono HBA.out.size))
  clear hb2 c0 c1
  go_wp2_with fail
  go_ret
  exact ⟨rfl, HB2.out⟩
set_option maxRecDepth 100000 in
set_option maxHeartbeats 2000000 in
theorem cfdx_any (v : Value) (l : List Dir) (bx : Nat) (nm : ByteArray) (w : World) (hv : RdD w v l) (hl : l.length ≤ 1000000) (hz : ∀ d ∈ l, d.1.size ≤ 1000000) (hx : w.heap[bx]? = some (.cells #[.string nm] 9 (0, 0))) (hn : nm.size ≤ 1000000) :
    Calls Tryz.prog 61 #[v, .func (.func 62) #[] #[.pointer (some ⟨bx, 0, none⟩)]] w fun e w' => e = .returned (.int .i64 (fdI l nm)) ∧ Below w.heap.size w w' := by
  have HV := Kp.mk hv
  have HZ := Kp.mk hz
  have HX := Kp.mk hx
  have hbl := blk_lt hx
  obtain ⟨a, cap, rfl, hc1, hc2, -⟩ := hv
  clear hc2 hz hx
  go_enter Tryz.func61, Tryz.ntmps61
  go_wp2_with fail
  go_loopw [8] (fun i wr => ∃ k : Nat, k ≤ l.length ∧ i = .int .i64 k ∧ (∀ (j : Nat) (hj : j < l.length), j < k → foldB l[j].1 nm = false) ∧ Below w.heap.size w wr) (fun i _ => l.length - (intOf i).toNat)
  case atStart => exact ⟨0, by omega, rfl, fun j _ h => by omega, Below.refl _ _⟩
  case round =>
    obtain ⟨k, hk, rfl, hh, hb⟩ := hrel
    have HB := Kp.mk hb
    have HH := Kp.mk hh
    have hsz := hb.size
    clear hh hb
    by_cases hlt : k < l.length
    · obtain ⟨g, o, rfl, hgl, d0⟩ := rdd_cells (HV.out.below HB.out) (by omega)
      obtain ⟨c1, c2, c3⟩ := d0 k hlt
      have q0 : (0 : Int) ≤ (k : Int) := by omega
      have q1 : (k : Int) < (l.length : Int) := by omega
      have HHit := Kp.mk (fun hf => fdI_at (nm := nm) hlt hf HH.out)
      have HN := Kp.mk (fun (ht : foldB l[k].1 nm = false) => show ∀ (j : Nat) (hj : j < l.length), j < k + 1 → foldB l[j].1 nm = false from fun j hj h => by
        by_cases hjk : j = k
        · subst hjk; exact ht
        · exact HH.out j hj (by omega))
      have HC := Kp.mk (fun W hx => cfd1_any l[k] bx nm W hx (HZ.out _ (List.getElem_mem hlt)) hn)
      clear d0
      generalize l[k] = cx at *
      obtain ⟨x, p, r⟩ := cx
      dsimp only at c1 c2 c3
      go_wp2_with fail
      refine (HC.out _ ((HB.out.block bx hbl).trans HX.out)).mono ?_
      rintro e w2 ⟨rfl, hb2⟩
      have HB2 := Kp.mk (HB.out.trans (hb2.mono hsz))
      clear hb2
      cases hf : foldB x nm
      · have HT2 := Kp.mk (HN.out hf)
        go_wp2_with fail
        go_roundw
        case rel => exact ⟨k + 1, by omega, by go_num, HT2.out, HB2.out⟩
        case measure => simp [intOf]; omega
      · have HT2 := Kp.mk (HHit.out hf)
        go_wp2_with fail
        go_ret
        exact ⟨by rw [HT2.out]; rfl, HB2.out⟩
    · have HK := Kp.mk (fdI_no (L := l) (nm := nm) fun j hj _ => HH.out j hj (by omega))
      go_wp2_with fail
      go_ret
      exact ⟨by rw [HK.out]; rfl, HB.out⟩
set_option maxRecDepth 100000 in
theorem cfind_any (v : Value) (l : List Dir) (nm : ByteArray) (w : World) (hv : RdD w v l) (hl : l.length ≤ 1000000) (hz : ∀ d ∈ l, d.1.size ≤ 1000000) (hn : nm.size ≤ 1000000) :
    Calls Tryz.prog 35 #[v, .string nm] w fun e w' => e = .returned (.int .i64 (fdI l nm)) ∧ Below w.heap.size w w' := by
  have HV := Kp.mk hv
  have HZ := Kp.mk hz
  obtain ⟨a, cap, rfl, hc1, hc2, -⟩ := hv
  clear hc2 hz
  have HBA := Kp.mk ((Below.refl w.heap.size w).alloc (Nat.le_refl _) (.cells #[.string nm] 9))
  have HVA := Kp.mk (HV.out.below ((Below.refl w.heap.size w).alloc (Nat.le_refl _) (.cells #[.string nm] 9)))
  go_enter Tryz.func35, Tryz.ntmps35
  go_wp2_with fail
  refine (cfdx_any _ l _ nm _ HVA.out hl HZ.out (heap_alloc_new w _) hn).mono ?_
  rintro e w2 ⟨rfl, hb2⟩
  have HB2 := Kp.mk (HBA.out.trans (hb2.mono HBA.out.size))
  clear hb2
  go_wp2_with fail
  go_ret
  exact ⟨rfl, HB2.out⟩
end Go.Proofs.YtgamekfickheaaaGreat
namespace Go.Proofs.YtgamekfickheaaaGreat
open Go.RowKit
set_option linter.unusedVariables false
set_option linter.unusedSimpArgs false

def nmMA : ByteArray := ⟨#[109, 97, 120, 45, 97, 103, 101]⟩
theorem nmD_size (x : ByteArray) : (nmD x).size ≤ x.size := by
  unfold nmD
  rw [lowB_size, upB_size]
  omega
theorem prs_names {v : ByteArray} : ∀ d ∈ prs v, d.1.size ≤ v.size := by
  intro d hd
  unfold prs at hd
  split at hd
  · obtain ⟨x, hx, rfl⟩ := List.mem_map.1 hd
    have h1 := nmD_size x
    have h2 := (splL_mem hx).2
    show (nmD x).size ≤ _
    omega
  · cases hd
theorem prs_len (v : ByteArray) : (prs v).length ≤ v.size + 1 := by
  have := splL_len v
  unfold prs
  split
  · rw [List.length_map]; exact this
  · simp
set_option maxRecDepth 100000 in
set_option maxHeartbeats 1000000 in
theorem chas21_any (vl : Value) (l : List Fld) (nm : ByteArray) (w : World) (hv : RdF w vl l) (hF : FewF l) (hn : nm.size ≤ 1000000) :
    Calls Tryz.prog 15 #[vl, .string nm] w fun e w' => e = .returned (.bool (decide (0 ≤ fdI (ccD l) nm))) ∧ Below w.heap.size w w' := by
  have hvz : (hJoin (hAll l nmCC)).size ≤ 50100 := hF.comb nmCC
  have HZ := Kp.mk (fun d (h : d ∈ ccD l) => show d.1.size ≤ 1000000 by have h1 := prs_names d h; omega)
  have hlc : (ccD l).length ≤ 1000000 := by have h1 := prs_len (hJoin (hAll l nmCC)); unfold ccD; omega
  have HV := Kp.mk hv
  have HF := Kp.mk hF
  clear hF hv
  go_enter Tryz.func15, Tryz.ntmps15
  go_wp2_with fail
  refine (control_any vl l _ HV.out HF.out).mono ?_
  rintro e w1 ⟨u, rfl, ho, hb1⟩
  have HB1 := Kp.mk hb1
  have HR := Kp.mk (rdd_own ho)
  obtain ⟨a, c, rfl⟩ := own_lenH ho
  clear ho hb1
  go_wp2_with fail
  refine (cfind_any _ (ccD l) nm _ HR.out hlc HZ.out hn).mono ?_
  rintro e w2 ⟨rfl, hb2⟩
  have HB2 := Kp.mk (HB1.out.trans (hb2.mono HB1.out.size))
  clear hb2
  go_wp2_with fail
  go_ret
  exact ⟨rfl, HB2.out⟩
set_option maxRecDepth 100000 in
set_option maxHeartbeats 1000000 in
theorem cprag_any (vl : Value) (l : List Fld) (w : World) (hv : RdF w vl l) (hF : FewF l) :
    Calls Tryz.prog 13 #[vl] w fun e w' => e = .returned (.bool (hasB (hJoin (hAll l nmPR)) vNC)) ∧ Below w.heap.size w w' := by
  have hvz : (hJoin (hAll l nmPR)).size ≤ 50100 := hF.comb nmPR
  have HV := Kp.mk hv
  have HS := Kp.mk hF.sm
  have hl5 := hF.len
  clear hF hv
  go_enter Tryz.func13, Tryz.ntmps13
  go_wp2_with fail
  refine (hcomb_any vl l nmPR _ HV.out HS.out (by omega) (by decide)).mono ?_
  rintro e w1 ⟨rfl, hb1⟩
  have HB1 := Kp.mk hb1
  clear hb1
  generalize hIs l nmPR = hi at *
  go_wp2_with fail
  refine (has_any _ vNC _ (by omega) (by decide)).mono ?_
  rintro e w2 ⟨rfl, hb2⟩
  have HB2 := Kp.mk (HB1.out.trans (hb2.mono HB1.out.size))
  clear hb2
  go_wp2_with fail
  go_ret
  exact ⟨rfl, HB2.out⟩
/-- P21.2: how old. -/
def ageR (D : List Dir) : Int × Bool :=
  match D[fdN D nmMA]? with
  | none => (0, false)
  | some d => if numE 10 d.2.1 2147483647 = 0 then (numV 10 d.2.1 2147483647, true) else if numE 10 d.2.1 2147483647 = 5 then (2147483647, true) else (0, false)
set_option maxRecDepth 100000 in
set_option maxHeartbeats 2000000 in
theorem cage_any (vl : Value) (l : List Fld) (w : World) (hv : RdF w vl l) (hF : FewF l) (hz2 : ∀ d ∈ ccD l, d.2.1.size ≤ 1000000) :
    Calls Tryz.prog 20 #[vl] w fun e w' => e = .returned (.tuple #[.int .i64 (ageR (ccD l)).1, .bool (ageR (ccD l)).2]) ∧ Below w.heap.size w w' := by
  have hvz : (hJoin (hAll l nmCC)).size ≤ 50100 := hF.comb nmCC
  have HZ := Kp.mk (fun d (h : d ∈ ccD l) => show d.1.size ≤ 1000000 by have h1 := prs_names d h; omega)
  have hlc : (ccD l).length ≤ 1000000 := by have h1 := prs_len (hJoin (hAll l nmCC)); unfold ccD; omega
  have HV := Kp.mk hv
  have HF := Kp.mk hF
  have HZ2 := Kp.mk hz2
  clear hF hv hz2
  have HC := Kp.mk (fun W => control_any vl l W)
  unfold RetDl at HC
  obtain ⟨D, hD⟩ : ∃ D, D = ccD l := ⟨_, rfl⟩
  have HDE := Kp.mk hD
  rw [← hD] at HZ HZ2 HC hlc
  clear hD
  go_enter Tryz.func20, Tryz.ntmps20
  go_wp2_with fail
  refine (HC.out _ HV.out HF.out).mono ?_
  rintro e w1 ⟨u, rfl, ho, hb1⟩
  have HB1 := Kp.mk hb1
  have HR := Kp.mk (rdd_own ho)
  obtain ⟨a, c, rfl⟩ := own_lenH ho
  clear ho hb1
  go_wp2_with fail
  refine (cfind_any _ D nmMA _ HR.out hlc HZ.out (by decide)).mono ?_
  rintro e w2 ⟨rfl, hb2⟩
  have HB2 := Kp.mk (HB1.out.trans (hb2.mono HB1.out.size))
  have HR2 := Kp.mk (HR.out.below hb2)
  clear hb2
  by_cases hlt : fdN D nmMA < D.length
  · have hfi : fdI D nmMA = (fdN D nmMA : Int) := if_pos hlt
    have HAG := Kp.mk (show ageR D = if numE 10 D[fdN D nmMA].2.1 2147483647 = 0 then (numV 10 D[fdN D nmMA].2.1 2147483647, true) else if numE 10 D[fdN D nmMA].2.1 2147483647 = 5 then (2147483647, true) else (0, false) by unfold ageR; rw [List.getElem?_eq_getElem hlt])
    have hvs := HZ2.out _ (List.getElem_mem hlt)
    obtain ⟨g, o, rfl, hgl, d0⟩ := rdd_cells HR2.out (by omega)
    obtain ⟨c1, c2, c3⟩ := d0 _ hlt
    rw [hfi]
    clear d0 hfi
    generalize D[fdN D nmMA].2.1 = s at *
    generalize fdN D nmMA = k at *
    have q0 : (0 : Int) ≤ (k : Int) := by omega
    have q1 : (k : Int) < (D.length : Int) := by omega
    have q2 : ¬ (k : Int) < 0 := by omega
    go_wp2_with fail
    refine (dec_any s 2147483647 _ (by unfold maxLen; omega) (by decide) (by decide)).mono ?_
    rintro e w3 ⟨rfl, hb3⟩
    have HB3 := Kp.mk (HB2.out.trans (hb3.mono HB2.out.size))
    clear hb3
    generalize numE 10 s 2147483647 = er at *
    generalize numV 10 s 2147483647 = nv at *
    by_cases h0 : er = 0
    · have HX := Kp.mk (HAG.out.trans (if_pos h0))
      subst h0
      go_wp2_with fail
      go_ret2
      exact ⟨by rw [← HDE.out, HX.out]; rfl, HB3.out⟩
    · have h0' : (er == 0) = false := beq_eq_false_iff_ne.2 h0
      by_cases h5 : er = 5
      · have HX := Kp.mk (HAG.out.trans ((if_neg h0).trans (if_pos h5)))
        subst h5
        go_wp2_with fail
        go_ret2
        exact ⟨by rw [← HDE.out, HX.out]; rfl, HB3.out⟩
      · have h5' : (er == 5) = false := beq_eq_false_iff_ne.2 h5
        have HX := Kp.mk (HAG.out.trans ((if_neg h0).trans (if_neg h5)))
        clear h0 h5
        go_wp2_with fail
        go_ret2
        exact ⟨by rw [← HDE.out, HX.out]; rfl, HB3.out⟩
  · have hfi : fdI D nmMA = -1 := if_neg hlt
    have HX := Kp.mk (show ageR D = (0, false) by unfold ageR; rw [List.getElem?_eq_none (by omega)])
    rw [hfi]
    clear hfi
    go_wp2_with fail
    go_ret2
    exact ⟨by rw [← HDE.out, HX.out]; rfl, HB2.out⟩
end Go.Proofs.YtgamekfickheaaaGreat
namespace Go.Proofs.YtgamekfickheaaaGreat
open Go.RowKit
set_option linter.unusedVariables false
set_option linter.unusedSimpArgs false

def exE : List Fld := [(⟨#[99, 97, 99, 104, 101, 45, 99, 111, 110, 116, 114, 111, 108]⟩, ⟨#[110, 111, 45, 99, 97, 99, 104, 101, 44, 32, 77, 97, 120, 45, 65, 103, 101, 61, 54, 48]⟩)]
def exP : List Fld := [(⟨#[80, 114, 97, 103, 109, 97]⟩, ⟨#[97, 44, 32, 78, 111, 45, 67, 97, 99, 104, 101]⟩)]
def vNoC : ByteArray := ⟨#[78, 111, 45, 67, 97, 99, 104, 101]⟩
theorem exE_few : FewF exE := ⟨by decide, by intro p hp; simp [exE] at hp; subst hp; exact ⟨by decide, by decide⟩⟩
theorem exP_few : FewF exP := ⟨by decide, by intro p hp; simp [exP] at hp; subst hp; exact ⟨by decide, by decide⟩⟩
theorem exE_cc : ccD exE = [(⟨#[110, 111, 45, 99, 97, 99, 104, 101]⟩, ⟨#[]⟩, false), (⟨#[109, 97, 120, 45, 97, 103, 101]⟩, ⟨#[54, 48]⟩, true)] := by decide +kernel
theorem exE_age : ageR (ccD exE) = (60, true) := by rw [exE_cc]; decide +kernel
theorem exE_has : decide (0 ≤ fdI (ccD exE) vNoC) = true := by rw [exE_cc]; decide +kernel
theorem exE_val : ∀ d ∈ ccD exE, d.2.1.size ≤ 1000000 := by
  rw [exE_cc]
  intro d hd
  simp at hd
  rcases hd with rfl | rfl <;> decide
theorem exP_pr : hasB (hJoin (hAll exP nmPR)) vNC = true := by decide +kernel
end Go.Proofs.YtgamekfickheaaaGreat
