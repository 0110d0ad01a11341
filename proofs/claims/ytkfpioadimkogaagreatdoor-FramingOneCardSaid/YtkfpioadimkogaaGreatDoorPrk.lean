/- Words with parameters: a parameter, as the document has it, whole (layer 8). · Words with parameters: Parse as the document has it; lists of parameters that are the same (layer 8). -/
import Derived.Test.YtkfpioadimkogaaGreatDoorPrg
import Derived.Test.YtkfpioadimkogaaGreatDoorPrh
import Derived.Test.YtkfpioadimkogaaGreatDoorPria
import Derived.Test.YtkfpioadimkogaaGreatDoorPrib
import Derived.Test.YtkfpioadimkogaaGreatDoorPric
import Derived.Test.YtkfpioadimkogaaGreatDoorPre
import Derived.Deep.QuietTactic
import Derived.BigQuiet
namespace Go.Proofs.YtkfpioadimkogaaGreatDoor
open Go.RowKit
theorem rpar_any (x : ByteArray) (w : World) (hs : x.size ≤ 1000000) :
    Calls Tryz.prog 183 #[.string x] w (RParPost x w) := by
  cases h1 : hasSemi x
  · by_cases hy : (fromB x (preN blankN x)).size = 0
    · exact rpar_a1 x w hs h1 hy
    · exact rpar_a2 x w hs h1 (by omega)
  · by_cases h2 : nameLen x = 0
    · exact rpar_b x w hs h1 h2
    · cases h3 : hasEq x
      · by_cases hk : preN blankN (fromB x (nameEnd x)) = (fromB x (nameEnd x)).size
        · exact rpar_c1 x w hs h1 (by omega) h3 hk
        · exact rpar_c2 x w hs h1 (by omega) h3 (by have := preN_le blankN (fromB x (nameEnd x)); omega)
      · by_cases h4 : valLen x = 0
        · by_cases h5 : quotedN (fromB x (valAt x)) = 0
          · exact rpar_e0 x w hs h1 (by omega) h3 h4 h5
          · exact rpar_e1 x w hs h1 (by omega) h3 h4 (by omega)
        · exact rpar_d x w hs h1 (by omega) h3 (by omega)
end Go.Proofs.YtkfpioadimkogaaGreatDoor
namespace Go.Proofs.YtkfpioadimkogaaGreatDoor
open Go.RowKit
set_option linter.unusedVariables false
set_option linter.unusedSimpArgs false

def RPPost (s : ByteArray) (w : World) (e : Ending) (w' : World) : Prop :=
  ∃ v, e = .returned (.tuple #[.string (prmAll s).2.1, v, .int .i64 (prmAll s).1]) ∧ w'.ownsRow w.heap.size 175 2 v (prmAll s).2.2.length (pcells (prmAll s).2.2) ∧ Below w.heap.size w w'

set_option maxRecDepth 100000 in
set_option maxHeartbeats 4000000 in
theorem rparse_any (s : ByteArray) (w : World) (hs : s.size ≤ 1000000) :
    Calls Tryz.prog 156 #[.string s] w (RPPost s w) := by
  by_cases h0 : s.size = 0
  · have HP := Hd.mk (prmAll_emp h0)
    have he : s.toList = [] := tl_of_size h0
    clear h0
    go_enter Tryz.func156, Tryz.ntmps156
    go_wp2_with fail
    go_ret3
    exact ⟨.slice none 0 0, by rw [HP.out]; rfl, by rw [HP.out]; exact World.ownsRow_nil _ _ _ _, Below.refl _ _⟩
  · have he : s.toList.isEmpty = false := tl_ne_size (by omega)
    have H0 := Hd.mk h0
    have z0 := pre_le tcharB s
    clear h0
    by_cases hk0 : preN tcharB s = 0
    · have HP := Hd.mk (prmAll_no H0.out (.inl hk0))
      have HK0 := Hd.mk hk0
      have t0 : ((preN tcharB s : Int) == 0) = true := szi hk0
      have hup : (upB s (preN tcharB s)).size ≤ 1000000 := by rw [upB_size]; omega
      clear hk0
      go_enter Tryz.func156, Tryz.ntmps156
      go_wp2_with fail
      refine (ref_token4_any _ _ (by unfold maxLen; omega)).mono ?_
      rintro e w1 ⟨rfl, rfl⟩
      go_wp2_with fail
      simp only [ext_up]
      refine (ref_lower_any _ _ (by omega)).mono ?_
      rintro e w2 ⟨rfl, hb2⟩
      go_wp2_with fail
      go_ret3
      exact ⟨.slice none 0 0, by rw [HP.out]; rfl, by rw [HP.out]; exact World.ownsRow_nil _ _ _ _, by first | exact hb2 | exact hb2.alloc hb2.size _⟩
    · have hkp : 0 < preN tcharB s := by omega
      have HKP := Hd.mk hkp
      have t0 : ((preN tcharB s : Int) == 0) = false := szn hkp
      have hup : (upB s (preN tcharB s)).size ≤ 1000000 := by rw [upB_size]; omega
      clear hk0 hkp
      go_enter Tryz.func156, Tryz.ntmps156
      go_wp2_with fail
      refine (ref_token4_any _ _ (by unfold maxLen; omega)).mono ?_
      rintro e w1 ⟨rfl, rfl⟩
      go_wp2_with fail
      simp only [ext_up]
      refine (ref_lower_any _ _ (by omega)).mono ?_
      rintro e w2 ⟨rfl, hb2⟩
      have HB2 := Hd.mk hb2
      have hz2 := hb2.size
      clear hb2
      go_wp2_with fail
      simp only [ext_from]
      go_loopw [0, 7] (fun v lv wr => ∃ (n : Nat) (l : List Par), v = .string (fromB s n) ∧ n ≤ s.size ∧ l.length ≤ n ∧ Below w.heap.size w wr ∧ wr.ownsRow w.heap.size 175 2 lv l.length (pcells l) ∧ parsL (s.size + 1) (fromB s (preN tcharB s)) = (parsL (s.size + 1) (fromB s n)).map (l ++ ·)) (fun v _ _ => szOf v)
      case atStart =>
        refine ⟨preN tcharB s, [], rfl, z0, by simp, HB2.out.alloc hz2 _, ?_, by cases parsL (s.size + 1) (fromB s (preN tcharB s)) <;> simp⟩
        exact World.ownsRow_made _ _ 0 (by omega) (by unfold maxLen; omega) rfl
      case round =>
        obtain ⟨n, l, rfl, hn, hln, hbel, hown, hpl⟩ := hrel
        have HB := Hd.mk hbel
        have HPL := Hd.mk hpl
        have hsz := hbel.size
        have hfs : (fromB s n).size ≤ 1000000 := by rw [fromB_size]; omega
        clear hbel hpl
        by_cases hd : (fromB s n).size = 0
        · have HP := Hd.mk (prmAll_yes (l := l) H0.out HKP.out (by rw [HPL.out, parsL_end hd _ (by omega)]; simp))
          have hee : (fromB s n).toList = [] := tl_of_size hd
          have HO := Hd.mk hown
          clear hd hown
          go_wp2_with fail
          go_ret3
          exact ⟨_, by rw [HP.out]; rfl, by rw [HP.out]; exact HO.out, HB.out⟩
        · have hee : (fromB s n).toList.isEmpty = false := tl_ne_size (by omega)
          have HD := Hd.mk hd
          clear hd
          go_wp2_with fail
          refine (rpar_any _ _ hfs).mono ?_
          rintro e w3 ⟨nm, vl, rest, rfl, hb3, hok⟩
          have HB3 := Hd.mk hb3
          have HOK := Hd.mk hok
          have hown3 := own_below hown hb3
          have hsz3 := Nat.le_trans hsz hb3.size
          clear hb3 hok hown
          cases hp : parOk (fromB s n)
          · have HP := Hd.mk (prmAll_no (s := s) H0.out (.inr (by rw [HPL.out, parsL_no HD.out hp]; rfl)))
            clear hp
            go_wp2_with fail
            go_ret3
            exact ⟨.slice none 0 0, by rw [HP.out]; rfl, by rw [HP.out]; exact World.ownsRow_nil _ _ _ _, (HB.out.trans (HB3.out.mono hsz)).alloc hsz3 _⟩
          · obtain ⟨rfl, rfl, rfl⟩ := HOK.out hp
            have HP := Hd.mk hp
            have hpe := parEnd_le hp
            rw [fromB_size] at hpe
            have hown4 := hown3.alloc (.cells #[.string (parName (fromB s n)), .string (parVal (fromB s n))] 175)
            have hsz4 : w.heap.size ≤ (w3.alloc (.cells #[.string (parName (fromB s n)), .string (parVal (fromB s n))] 175)).heap.size := by simp; omega
            have HE := Hd.mk (fromB_from s n (parEnd (fromB s n)))
            clear hp
            go_wp2_with (at_builtin; refine app_par rfl _ _ _ _ rfl Tryz.underlying151 Tryz.infoP w.heap.size _ l rfl hown4 (parName (fromB s n)) (parVal (fromB s n)) (w3.heap.size + 1) (by simp) rfl (by omega) hsz4 ?_; intro v' w4 hown5 hb5 hg5)
            go_roundw
            case rel =>
              refine ⟨n + parEnd (fromB s n), l ++ [(parName (fromB s n), parVal (fromB s n))], by rw [← HE.out], by omega, by simp; omega, ((HB.out.trans (HB3.out.mono hsz)).alloc hsz3 _).trans hb5, hown5, ?_⟩
              rw [HPL.out, parsL_step HD.out HP.out _ (by rw [fromB_size]; omega), HE.out]
              cases parsL (s.size + 1) (fromB s (n + parEnd (fromB s n))) <;> simp
            case measure => simp only [szOf]; rw [HE.out, fromB_size, fromB_size]; omega
end Go.Proofs.YtkfpioadimkogaaGreatDoor
