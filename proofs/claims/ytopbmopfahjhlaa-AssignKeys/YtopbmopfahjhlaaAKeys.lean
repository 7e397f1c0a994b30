/- AssignKeys: a key's partition, the program's and the document's. -/
import Derived.Test.YtopbmopfahjhlaaAKnows
import Derived.Test.YtopbmopfahjhlaaSum
import Derived.Test.YtopbmopfahjhlaaRefSum
import Derived.Test.YtopbmopfahjhlaaStr
namespace Go.Proofs.Ytopbmopfahjhlaa
open Go.RowKit Crcm
variable {w w' : World}

/-- P1404. -/
def keyZ (s : ByteArray) (p : Int) : Int := if p < 1 ∨ 32 < p then -1 else ((crc (sbytes s) % p.toNat : Nat) : Int)
theorem keyZ_in {s : ByteArray} {p : Int} (h1 : 1 ≤ p) (h2 : p ≤ 32) : 0 ≤ keyZ s p ∧ keyZ s p < p := by
  unfold keyZ
  rw [if_neg (by omega)]
  have := Nat.mod_lt (crc (sbytes s)) (show p.toNat > 0 by omega)
  omega
set_option maxHeartbeats 1000000 in
theorem key_any (s : ByteArray) (hs : s.size ≤ 140737488351232) (p : Int) (w : World) : Calls Try.prog 16 #[.string s, .int .i64 p] w fun e w' => e = .returned (.int .i64 (keyZ s p)) ∧ Below w.heap.size w w' := by
  by_cases h1 : p < 1
  · have HV : Hid (keyZ s p = -1) := by unfold keyZ; rw [if_pos (Or.inl h1)]; exact rfl
    rw [HV.out]
    go_enter Try.func16, Try.ntmps16
    go_wp2_with fail
    go_ret
    exact ⟨rfl, Below.refl _ _⟩
  · by_cases h2 : 32 < p
    · have HV : Hid (keyZ s p = -1) := by unfold keyZ; rw [if_pos (Or.inr h2)]; exact rfl
      rw [HV.out]
      go_enter Try.func16, Try.ntmps16
      go_wp2_with fail
      go_ret
      exact ⟨rfl, Below.refl _ _⟩
    · obtain ⟨n, rfl⟩ : ∃ n : Nat, p = (n : Int) := ⟨p.toNat, by omega⟩
      have HV : Hid (keyZ s (n : Int) = ((crc (sbytes s) % n : Nat) : Int)) := by unfold keyZ; rw [if_neg (by omega)]; exact rfl
      rw [HV.out]
      obtain ⟨Q, w1, hcv, hQ, hb⟩ := conv_string s w
      have hQl : Q.l.length = Q.len := hQ.out.2.1
      have hsz : (sbytes s).length = s.size := sbytes_length s
      have HC := hid (crc_any Q.ad Q.len Q.cap (sbytes s) w1 (by rw [← hQ.out.1]; exact hQl) (by rw [← hQl, hQ.out.1, hsz]; unfold maxLen; omega) (by have := hQ.out.2.2.2; rw [hQ.out.1] at this; exact this))
      have hlt := crc_lt (sbytes s)
      have HB := hid hb
      have hm : crc (sbytes s) % n < n := Nat.mod_lt _ (by omega)
      have hn0 : ((n : Int) == 0) = false := by simp; omega
      clear hQ hQl hsz HV hb
      generalize crc (sbytes s) = z at *
      go_enter Try.func16, Try.ntmps16
      go_wp2_with (go_at_call 37; (with_reducible_and_instances (refine HC.out.mono ?_)); rintro e w2 ⟨rfl, hb2⟩; have HB2 := hid hb2; clear hb2)
      go_ret
      refine ⟨?_, HB.out.trans (HB2.out.mono HB.out.size)⟩
      exact ret_int (by simp)
set_option maxHeartbeats 1000000 in
theorem refKey_any (s : ByteArray) (hs : s.size ≤ 140737488351232) (p : Int) (w : World) : Calls Try.prog 17 #[.string s, .int .i64 p] w fun e w' => e = .returned (.int .i64 (keyZ s p)) ∧ Below w.heap.size w w' := by
  by_cases h1 : p < 1
  · have HV : Hid (keyZ s p = -1) := by unfold keyZ; rw [if_pos (Or.inl h1)]; exact rfl
    rw [HV.out]
    go_enter Try.func17, Try.ntmps17
    go_wp2_with fail
    go_ret
    exact ⟨rfl, Below.refl _ _⟩
  · by_cases h2 : 32 < p
    · have HV : Hid (keyZ s p = -1) := by unfold keyZ; rw [if_pos (Or.inr h2)]; exact rfl
      rw [HV.out]
      go_enter Try.func17, Try.ntmps17
      go_wp2_with fail
      go_ret
      exact ⟨rfl, Below.refl _ _⟩
    · obtain ⟨n, rfl⟩ : ∃ n : Nat, p = (n : Int) := ⟨p.toNat, by omega⟩
      have HV : Hid (keyZ s (n : Int) = ((crc (sbytes s) % n : Nat) : Int)) := by unfold keyZ; rw [if_neg (by omega)]; exact rfl
      rw [HV.out]
      obtain ⟨Q, w1, hcv, hQ, hb⟩ := conv_string s w
      have hQl : Q.l.length = Q.len := hQ.out.2.1
      have hsz : (sbytes s).length = s.size := sbytes_length s
      have HC := hid (refCrc_any Q.ad Q.len Q.cap (sbytes s) w1 (by rw [← hQ.out.1]; exact hQl) (by rw [← hQl, hQ.out.1, hsz]; unfold maxLen; omega) (by have := hQ.out.2.2.2; rw [hQ.out.1] at this; exact this))
      have hlt := crc_lt (sbytes s)
      have HB := hid hb
      have hm : crc (sbytes s) % n < n := Nat.mod_lt _ (by omega)
      have hn0 : ((n : Int) == 0) = false := by simp; omega
      clear hQ hQl hsz HV hb
      generalize crc (sbytes s) = z at *
      go_enter Try.func17, Try.ntmps17
      go_wp2_with (go_at_call 38; (with_reducible_and_instances (refine HC.out.mono ?_)); rintro e w2 ⟨rfl, hw2⟩; obtain rfl := hw2.symm)
      go_ret
      refine ⟨?_, HB.out⟩
      exact ret_int (by simp)
set_option maxHeartbeats 1000000 in
theorem keys_walk (s : ByteArray) (hs : s.size ≤ 140737488351232) (p : Int) (w : World) : Calls Try.prog 5 #[.string s, .int .i64 p] w fun e w' => e = .returned (.bool true) ∧ Below w.heap.size w w' := by
  have HK := hid (key_any s hs p w)
  have HR := hid (refKey_any s hs p)
  by_cases h : 1 ≤ p ∧ p ≤ 32
  · obtain ⟨h1, h2⟩ := keyZ_in (s := s) h.1 h.2
    have hd : decide (keyZ s p < p) = true := by simpa using h2
    have hg : decide (0 ≤ keyZ s p) = true := by simpa using h1
    clear h1 h2 h
    generalize keyZ s p = z at *
    go_enter Try.func5, Try.ntmps5
    go_wp2_with (first
      | (go_at_call 16; (with_reducible_and_instances (refine HK.out.mono ?_)); rintro e w1 ⟨rfl, hb⟩; have HB1 := hid hb; have HR1 := hid (HR.out w1); clear hb)
      | (go_at_call 17; (with_reducible_and_instances (refine HR1.out.mono ?_)); rintro e w2 ⟨rfl, hb⟩; have HB2 := hid hb; have HN := hid (knows14 w2); clear hb)
      | (go_at_call 12; (with_reducible_and_instances (refine HN.out.mono ?_)); rintro e w3 ⟨rfl, hb⟩; have HB3 := hid hb; clear hb))
    go_ret
    have b2 := HB1.out.trans (HB2.out.mono HB1.out.size)
    exact ⟨rfl, b2.trans (HB3.out.mono b2.size)⟩
  · have HV : Hid (keyZ s p = -1) := by unfold keyZ; rw [if_pos (by omega)]; exact rfl
    rw [HV.out] at HK HR
    rcases (show p < 1 ∨ 32 < p by omega) with hp | hp
    · have hd : decide ((-1 : Int) < p) = true ∨ decide ((-1 : Int) < p) = false := by cases decide ((-1 : Int) < p) <;> simp
      clear h HV
      rcases hd with hd | hd
      all_goals
        go_enter Try.func5, Try.ntmps5
        go_wp2_with (first
          | (go_at_call 16; (with_reducible_and_instances (refine HK.out.mono ?_)); rintro e w1 ⟨rfl, hb⟩; have HB1 := hid hb; have HR1 := hid (HR.out w1); clear hb)
          | (go_at_call 17; (with_reducible_and_instances (refine HR1.out.mono ?_)); rintro e w2 ⟨rfl, hb⟩; have HB2 := hid hb; have HN := hid (knows14 w2); clear hb)
          | (go_at_call 12; (with_reducible_and_instances (refine HN.out.mono ?_)); rintro e w3 ⟨rfl, hb⟩; have HB3 := hid hb; clear hb))
        go_ret
        have b2 := HB1.out.trans (HB2.out.mono HB1.out.size)
        exact ⟨rfl, b2.trans (HB3.out.mono b2.size)⟩
    · have hd : decide ((-1 : Int) < p) = true := by simp; omega
      clear h HV
      go_enter Try.func5, Try.ntmps5
      go_wp2_with (first
        | (go_at_call 16; (with_reducible_and_instances (refine HK.out.mono ?_)); rintro e w1 ⟨rfl, hb⟩; have HB1 := hid hb; have HR1 := hid (HR.out w1); clear hb)
        | (go_at_call 17; (with_reducible_and_instances (refine HR1.out.mono ?_)); rintro e w2 ⟨rfl, hb⟩; have HB2 := hid hb; have HN := hid (knows14 w2); clear hb)
        | (go_at_call 12; (with_reducible_and_instances (refine HN.out.mono ?_)); rintro e w3 ⟨rfl, hb⟩; have HB3 := hid hb; clear hb))
      go_ret
      have b2 := HB1.out.trans (HB2.out.mono HB1.out.size)
      exact ⟨rfl, b2.trans (HB3.out.mono b2.size)⟩
end Go.Proofs.Ytopbmopfahjhlaa
