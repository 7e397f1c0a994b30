/- within of the statements of layer 14, where all is within. -/
import Derived.Test.YtakpdhmfbgfblaaACnt
import Derived.Test.YtakpdhmfbgfblaaASame
namespace Go.Proofs.Ytakpdhmfbgfblaa
open Go.RowKit
variable {w w' : World}

theorem drew_zero (w : World) : ∃ n, w = w.drewN n := ⟨0, rfl⟩
theorem drew_more {w w' : World} (h : ∃ n, w' = w.drewN n) (q : Nat) : ∃ n, w'.drewN q = w.drewN n := by
  obtain ⟨n, rfl⟩ := h
  exact ⟨n + q, World.drewN_drewN ..⟩
theorem drew_below {w w' : World} (h : ∃ n, w' = w.drewN n) : Below w.heap.size w w' := by
  obtain ⟨n, rfl⟩ := h
  exact below_drewN' (Below.refl _ _) n
set_option maxRecDepth 50000 in
set_option maxHeartbeats 4000000 in
theorem within_any {la lb : List Int} {ad bd : Option Addr} {am ac bm bc : Nat} (ha : ArgK kZ w la ad am ac) (hb : ArgK kZ w lb bd bm bc) (hin : ∀ z ∈ la, z ∈ lb) : Calls Try.prog 12 #[.slice ad am ac, .slice bd bm bc] w fun e w' => e = .returned (.bool true) ∧ ∃ n, w' = w.drewN n := by
  have hla := ha.len
  have hlb := hb.len
  have HLa := hid hla
  have HLb := hid hlb
  have HA := hid ha
  have HB := hid hb
  have hma : am ≤ maxLen := Nat.le_trans ha.cap ha.room
  have hmb : bm ≤ maxLen := Nat.le_trans hb.cap hb.room
  unfold maxLen at hma hmb
  have HX : Hid (∀ i, i < am → la.getD i 0 ∈ lb) := fun i hi => hin _ (getD_mem_any la 0 i (by omega))
  clear ha hb hin hla hlb
  go_enter Try.func12, Try.ntmps12
  go_wp2_with fail
  go_loopw [5] (fun iv wr => ∃ (i : Nat), i ≤ am ∧ iv = .int .i64 (i : Int) ∧ Hid (∃ n, wr = w.drewN n)) (fun iv _ => am - (intOf iv).toNat)
  case atStart => exact ⟨0, by omega, rfl, drew_zero w⟩
  case round =>
    obtain ⟨i, hi, rfl, HBi⟩ := hrel
    by_cases hlt : i < am
    · obtain ⟨b1, o1, rfl, hs0, hc1⟩ := HA.out.cells (by omega)
      obtain ⟨x, hx⟩ : ∃ x, la.getD i 0 = x := ⟨_, rfl⟩
      have q1 : w.cell? ⟨b1, o1 + i, none⟩ = some (.int .i64 x) := by have h := hc1 i hlt 0 (by decide); rw [Nat.mul_one, Nat.add_zero] at h; rw [h, ← hx]; rfl
      have HM : Hid (x ∈ lb) := by rw [← hx]; exact HX.out i hlt
      have hcap := HA.out.cap
      have HQ := hid q1
      have HS := hid hs0
      clear hc1 hx q1 hs0
      go_wp2_with fail
      go_loopw [6, 7] (fun mv kv wz => ∃ (k : Nat) (mt : Bool), k ≤ bm ∧ kv = .int .i64 (k : Int) ∧ mv = .bool mt ∧ Hid (decide (x ∈ lb.take k) = mt) ∧ Hid (∃ n, wz = w.drewN n)) (fun _ kv _ => bm - (intOf kv).toNat)
      case atStart => exact ⟨0, false, by omega, rfl, rfl, (by simp : decide (x ∈ lb.take 0) = false), HBi⟩
      case round =>
        obtain ⟨k, mt, hk, rfl, rfl, HT, HBk⟩ := hrel
        by_cases hks : k < bm
        · obtain ⟨bp, op, rfl, hbp0, hcp⟩ := HB.out.cells (by omega)
          obtain ⟨y, hy⟩ : ∃ y, lb.getD k 0 = y := ⟨_, rfl⟩
          have q1 := ((drew_below HBk.out).cell (p := ⟨b1, o1 + i, none⟩) HS.out).trans HQ.out
          have q2 := ((drew_below HBk.out).cell (p := ⟨bp, op + k, none⟩) hbp0).trans (by have h := hcp k hks 0 (by decide); rw [Nat.mul_one, Nat.add_zero] at h; rw [h, show lb.getD k kZ.z = lb.getD k 0 from rfl, hy]; rfl : w.cell? ⟨bp, op + k, none⟩ = some (.int .i64 y))
          have hcapb := HB.out.cap
          have HTk : Hid (lb.take (k + 1) = lb.take k ++ [y]) := by rw [← hy]; exact take_snoc_any lb 0 k (by rw [HLb.out]; exact hks)
          clear hcp hy hbp0
          cases mt with
          | true =>
            have HN : Hid (decide (x ∈ lb.take (k + 1)) = true) := by
              have h := HT.out
              rw [HTk.out]
              simp at h ⊢
              exact Or.inl h
            clear HT
            go_wp2_with fail
            go_quiet (fail)
            all_goals go_wp2
            exact ⟨⟨k + 1, true, by omega, by go_num, rfl, HN, drew_more HBk.out _⟩, by simp [intOf]; omega⟩
          | false =>
            by_cases hxy : x = y
            · have HN : Hid (decide (x ∈ lb.take (k + 1)) = true) := by
                rw [HTk.out]
                show decide _ = true
                simp [hxy]
              subst hxy
              clear HT
              go_wp2_with fail
              go_quiet (fail)
              all_goals go_wp2
              exact ⟨⟨k + 1, true, by omega, by go_num, rfl, HN, drew_more HBk.out _⟩, by simp [intOf]; omega⟩
            · have HN : Hid (decide (x ∈ lb.take (k + 1)) = false) := by
                have h := HT.out
                rw [HTk.out]
                simp at h ⊢
                exact ⟨h, hxy⟩
              have hb2 : (x == y) = false := by simp [hxy]
              clear HT
              go_wp2_with fail
              go_quiet (fail)
              all_goals go_wp2
              exact ⟨⟨k + 1, false, by omega, by go_num, rfl, HN, drew_more HBk.out _⟩, by simp [intOf]; omega⟩
        · obtain rfl : bm = k := by omega
          obtain rfl : mt = true := by
            have h := HT.out
            rw [List.take_of_length_le (by rw [HLb.out]; exact Nat.le_refl _)] at h
            rw [← h]
            simpa using HM.out
          go_wp2_with fail
          exact ⟨⟨i + 1, by omega, by go_num, HBk⟩, by simp [intOf]; omega⟩
    · obtain rfl : am = i := by omega
      go_wp2_with fail
      go_ret
      exact ⟨rfl, HBi.out⟩
end Go.Proofs.Ytakpdhmfbgfblaa
