/- What the document's own Get (package ref) answers. -/
import Derived.Test.YtciifdmdkfickaaGetN
namespace Go.Proofs.Ytciifdmdkfickaa
open Go.RowKit

set_option maxHeartbeats 400000 in
theorem refGet_ok (ad : Option Addr) (len cap : Nat) (l : List Nat) (p s : Nat) (w : World) (hp : Part.ok w ⟨ad, len, cap, l⟩) (hl : len ≤ 1000000000000000) (h1 : 1 ≤ s) (h6 : s ≤ 6) (hps : p + s ≤ len) :
    Calls Try.prog 21 #[.slice ad len cap, .int .i64 p, .int .i64 s] w fun e w' => e = .returned (.tuple #[.int .i64 (valN ((l.drop p).take s) : Nat), .int .i64 ((p + s : Nat) : Int), .int .i64 0]) ∧ w' = w := by
  obtain ⟨b, off, rfl, hb, hc⟩ := hp.cells (by omega)
  have HC : Hid (∀ i, i < len → w.cell? ⟨b, off + i, none⟩ = some (.int .u8 (l.getD i 0 : Nat))) := hc
  have HB : Hid (∀ x ∈ l, x < 256) := hp.2.2.1
  have HL : Hid (l.length = len) := hp.1
  clear hp hc
  go_enter Try.func21, Try.ntmps21
  go_wp2
  go_loop [9, 10] (fun n i => ∃ k : Nat, k ≤ s ∧ i = .int .i64 k ∧ n = .int .i64 (valN ((l.drop p).take k) : Nat)) (fun _ i => s - (intOf i).toNat)
  case atStart => exact ⟨0, Nat.zero_le _, rfl, rfl⟩
  case round =>
    obtain ⟨k, hk, rfl, rfl⟩ := hrel
    by_cases hlt : k < s
    · have hck := HC.out (p + k) (by omega)
      have hx := getD_lt HB.out (p + k)
      have HS : Hid (wrap64 (((valN ((l.drop p).take k) : Nat) : Int) + wrap64 ((l.getD (p + k) 0 : Int) * 2 ^ (8 * k))) = ((valN ((l.drop p).take (k + 1)) : Nat) : Int)) := by
        show _ = _
        rw [drop_take_snoc l p k (by rw [HL.out]; omega)]
        exact add_step _ _ k (drop_take_lt HB.out p k) hx (drop_take_length l p k (by rw [HL.out]; omega)) (by omega)
      generalize l.getD (p + k) 0 = x at *
      go_wp2
      go_round
      case rel => exact ⟨k + 1, by omega, by go_num, val_int (HS.out)⟩
      case measure => simp [intOf]; omega
    · obtain rfl : k = s := by omega
      go_wp2
      go_ret3
      exact ⟨rfl, rfl⟩
set_option maxHeartbeats 400000 in
theorem refGet_any (ad : Option Addr) (len cap : Nat) (l : List Nat) (p s : Int) (w : World) (hp : Part.ok w ⟨ad, len, cap, l⟩) (hl : len ≤ 1000000000000000) (hp2 : p ≤ 9223372036854775807) :
    Calls Try.prog 21 #[.slice ad len cap, .int .i64 p, .int .i64 s] w fun e w' => e = .returned (.tuple #[.int .i64 (getN l p s).1, .int .i64 (getN l p s).2.1, .int .i64 (getN l p s).2.2]) ∧ w' = w := by
  have hlen : l.length = len := hp.1
  by_cases h : 1 ≤ s ∧ s ≤ 6 ∧ 0 ≤ p
  · by_cases h2 : p + s ≤ len
    · obtain ⟨k, rfl⟩ := Int.eq_ofNat_of_zero_le (show 0 ≤ s by omega)
      obtain ⟨q, rfl⟩ := Int.eq_ofNat_of_zero_le h.2.2
      rw [getN_ok l q k (by omega) (by omega)]
      exact refGet_ok ad len cap l q k w hp hl (by omega) (by omega) (by omega)
    · rw [getN_end l p s h (by omega)]
      clear hp hlen
      by_cases h3 : (len : Int) < p
      · go_enter Try.func21, Try.ntmps21
        go_wp2
        go_ret3
        exact ⟨rfl, rfl⟩
      · obtain ⟨h4, h5, h6⟩ := h
        go_enter Try.func21, Try.ntmps21
        go_wp2
        go_ret3
        exact ⟨rfl, rfl⟩
  · rw [getN_arg l p s h]
    clear hp hlen
    by_cases h1 : s < 1
    · go_enter Try.func21, Try.ntmps21
      go_wp2
      go_ret3
      exact ⟨rfl, rfl⟩
    · by_cases h6 : 6 < s
      · clear h
        go_enter Try.func21, Try.ntmps21
        go_wp2
        go_ret3
        exact ⟨rfl, rfl⟩
      · have h7 : p < 0 := by omega
        clear h
        go_enter Try.func21, Try.ntmps21
        go_wp2
        go_ret3
        exact ⟨rfl, rfl⟩
end Go.Proofs.Ytciifdmdkfickaa
