/- What is proved: the contracts of flumeref03's functions on disks. -/
import Derived.Test.YtjahhheipeggeaaDskA
import Derived.Deep.QuietTactic
import Derived.BigQuiet
namespace Go.Proofs.Ytjahhheipeggeaa
open Go.RowKit

set_option maxHeartbeats 400000 in
theorem row_walk (lo hi : Nat) (a : Option Addr) (l c : Nat) (xs : List Sec) (w : World) (hr : Rg 2 w lo hi a l (secs xs)) (hl : l ≤ 9223372036854775807) :
    Calls Try.prog 38 #[.slice a l c] w fun e w' => e = .returned (.bool (rowB xs)) ∧ w = w' := by
  have hlen : xs.length = l := by have := hr.1; rw [secs_length] at this; omega
  by_cases h33 : l = 33
  · subst h33
    obtain ⟨g, o, rfl, _, _, hc⟩ := hr.addr (by decide)
    have HC := Lib.hid hc
    have HL := Lib.hid hlen
    clear hc hlen hr
    go_enter Try.func38, Try.ntmps38
    go_wp2
    go_loop [3] (fun i => ∃ k : Nat, k ≤ 33 ∧ i = .int .i64 k ∧ (xs.take k).all secOk = true) (fun i => 33 - (intOf i).toNat)
    case atStart => exact ⟨0, Nat.zero_le _, rfl, by simp⟩
    case round =>
      obtain ⟨k, hk, rfl, hall⟩ := hrel
      by_cases hlt : k < 33
      · have hkl : k < xs.length := by rw [HL.out]; exact hlt
        have hcn := HC.out _ _ (secs_n xs k hkl)
        have hcb : w.cell? ⟨g, o + k * 2 + 1, none⟩ = some (.string xs[k].b) := by rw [Nat.add_assoc]; exact HC.out _ _ (secs_b xs k hkl)
        have hget : xs[k]? = some xs[k] := List.getElem?_eq_getElem hkl
        generalize xs[k] = s at *
        have HS := Lib.hid hget
        have HA := Lib.hid hall
        clear hget hall hkl
        obtain ⟨sn, sb⟩ := s
        simp only at hcn hcb
        rcases hok : secOk ⟨sn, sb⟩ with _ | _
        · have HN := Lib.hid (rowB_no HS.out hok)
          have hex : sn < 0 ∨ (0 ≤ sn ∧ 1048575 < sn) ∨ (0 ≤ sn ∧ sn ≤ 1048575 ∧ 640 < sb.size) ∨ (sn = 0 ∧ sb.size ≤ 640 ∧ sb.toList ≠ []) := by
            have h0 := of_decide_eq_false hok
            simp only at h0
            by_cases e1 : sn < 0
            · exact .inl e1
            by_cases e2 : 1048575 < sn
            · exact .inr (.inl ⟨by omega, e2⟩)
            by_cases e3 : 640 < sb.size
            · exact .inr (.inr (.inl ⟨by omega, by omega, e3⟩))
            have e4 : ¬ (sn = 0 → sb.toList = []) := fun e => h0 ⟨by omega, by omega, by omega, e⟩
            have e5 := Classical.not_imp.1 e4
            exact .inr (.inr (.inr ⟨e5.1, by omega, e5.2⟩))
          clear hok
          rcases hex with h1 | ⟨h1, h2⟩ | ⟨h1, h2, h3⟩ | ⟨h1, h2, h3⟩
          · go_wp2
            go_ret
            exact ⟨ret_bool HN.out.symm, rfl⟩
          · go_wp2
            go_ret
            exact ⟨ret_bool HN.out.symm, rfl⟩
          · go_wp2
            go_ret
            exact ⟨ret_bool HN.out.symm, rfl⟩
          · have h4 : sb.toList.isEmpty = false := by simpa using h3
            go_wp2
            go_ret
            exact ⟨ret_bool HN.out.symm, rfl⟩
        · have HT := Lib.hid (all_succ secOk xs k _ HS.out HA.out hok)
          obtain ⟨h1, h2, h3, h4⟩ : 0 ≤ sn ∧ sn ≤ 1048575 ∧ sb.size ≤ 640 ∧ (sn = 0 → sb.toList = []) := of_decide_eq_true hok
          clear hok
          by_cases h5 : sn = 0
          · have h6 := h4 h5
            have h7 : sb.toList.isEmpty = true := by rw [h6]; rfl
            clear h4
            go_wp2
            go_round
            case rel => exact ⟨k + 1, by omega, by go_num, HT.out⟩
            case measure => simp [intOf]; omega
          · have h6 : (sn == 0) = false := by simpa using h5
            clear h4
            go_wp2
            go_round
            case rel => exact ⟨k + 1, by omega, by go_num, HT.out⟩
            case measure => simp [intOf]; omega
      · obtain rfl : k = 33 := by omega
        have HT := Lib.hid (rowB_yes HL.out (by rw [← hall, List.take_of_length_le (by rw [HL.out]; exact Nat.le_refl _)]))
        clear hall
        go_wp2
        go_ret
        exact ⟨ret_bool HT.out.symm, rfl⟩
  · have HN := Lib.hid (rowB_len (l := xs) (by rw [hlen]; exact h33))
    have h34 : ((l : Int) == 33) = false := by simp; omega
    clear hlen hr h33
    go_enter Try.func38, Try.ntmps38
    go_wp2
    go_ret
    exact ⟨ret_bool HN.out.symm, rfl⟩
end Go.Proofs.Ytjahhheipeggeaa
