/- What the statements' helper Stays answers of bytes that were lent and not written: true. -/
import Derived.Test.YtjldflfoncfndaaGreatLent
namespace Go.Proofs.YtjldflfoncfndaaGreat
open Go.RowKit

set_option maxHeartbeats 1000000 in
theorem stays_any (g c : Nat) (ad : Option Addr) (len cap base : Nat) (l : List Nat) (w : World) (hc : len + 2 ≤ c) (hr : len ≤ 140737488351232) (hown : Own w base (.slice (some ⟨g, 0, none⟩) (len + 2) c) (l ++ [201, 202])) (hp : Part.ok w ⟨ad, len, cap, l⟩) :
    Calls Tryz.prog 22 #[.slice (some ⟨g, 0, none⟩) len c, .slice ad len cap] w fun e w' => e = .returned (.bool true) ∧ Below w.heap.size w w' := by
  have hlen : l.length = len := hp.1
  have k1 := conv_drewN (hown.cut (n := len) hlen (by simp [hlen])).2.2 len c hlen
  have k2 := conv_drewN hp.2.2 len cap hlen
  have h2 := hown.2
  have hl2 : (l ++ [201, 202]).length = len + 2 := by simp [hlen]
  rw [hl2] at h2
  have m1 : w.cell? ⟨g, len, none⟩ = some (.int .u8 201) := by
    rw [h2.cellAt len (by omega), List.getElem?_map, List.getElem?_append_right (by omega), hlen, Nat.sub_self]; rfl
  have m2 : w.cell? ⟨g, len + 1, none⟩ = some (.int .u8 202) := by
    rw [h2.cellAt (len + 1) (by omega), List.getElem?_map, List.getElem?_append_right (by omega), hlen, show len + 1 - len = 1 by omega]; rfl
  clear hown h2 hp hl2
  go_enter Tryz.func22, Tryz.ntmps22
  go_wp2
  go_quiet (fail)
  go_wp2
  go_ret
  exact ⟨rfl, below_drewN' (Below.refl _ _) _⟩
end Go.Proofs.YtjldflfoncfndaaGreat
