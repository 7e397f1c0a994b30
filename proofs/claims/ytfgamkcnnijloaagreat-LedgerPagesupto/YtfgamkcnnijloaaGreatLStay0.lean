/- The closures of staying and Apply: which rows, and which aborted transactions, stay. -/
import Derived.Test.YtfgamkcnnijloaaGreatLChooseS
import Derived.Test.YtfgamkcnnijloaaGreatLStayM
import Derived.Test.YtfgamkcnnijloaaGreatLEnt
namespace Go.Proofs.YtfgamkcnnijloaaGreat
open Go.RowKit Go.Shelf
variable {w w' : World}

abbrev TMk : TypeId := 104
theorem keyB : Maps.Keyed Tryz.prog 9 := Maps.string_keyed Tryz.underlying9
theorem keyOf_b (k : ByteArray) (h : k.size ≤ maxLen) : keyOf Tryz.prog 9 (.string k) = some (kLit k) := by
  rw [Go.WideMaps.keyOf_string_mk Tryz.underlying9 h]
  rfl
theorem zeroK (w : World) : (zeroValue 3).run Tryz.prog w = .ok (.int .i64 0) w := Tryz.zeroValue3 w
/-- An entry in its box. -/
def EBox (w : World) (B : Nat) (kd nn k p e q : Int) (tx : Bool) (ad : Option Addr) (len cap : Nat) : Prop := Blk w B #[.int .i64 kd, .int .i64 nn, .int .i64 k, .int .i64 p, .int .i64 e, .int .i64 q, .bool tx, .slice ad len cap] TEt
set_option maxHeartbeats 1000000 in
theorem staying1_any (r : Rw) (xb : Nat) {kd nn k p e q : Int} {tx : Bool} {ad : Option Addr} {len cap : Nat} (w : World) (h : EBox w xb kd nn k p e q tx ad len cap) : Calls Tryz.prog 52 #[.agg #[.int .i64 r.off, .int .i64 r.prod, .bool r.tx, .string r.rc.key, .string r.rc.val, .bool r.rc.dead], .pointer (some ⟨xb, 0, none⟩)] w fun e w' => e = .returned (.bool (decide (nn ≤ r.off))) ∧ Below w.heap.size w w' := by
  obtain ⟨ro, rp, rt, ⟨rk, rv, rd⟩⟩ := r
  obtain ⟨W0, hW0⟩ : ∃ W0, w.alloc (.cells #[.int .i64 ro, .int .i64 rp, .bool rt, .string rk, .string rv, .bool rd] 51) = W0 := ⟨_, rfl⟩
  have b0 : Below w.heap.size w W0 := by rw [← hW0]; exact (Below.refl _ _).alloc (Nat.le_refl _) _
  have X0 : Blk W0 w.heap.size #[.int .i64 ro, .int .i64 rp, .bool rt, .string rk, .string rv, .bool rd] 51 := by rw [← hW0]; exact heap_alloc_new w _
  have HB := hid b0
  have c0 := X0.cell 0
  have lx := X0.lt
  have d1 := (Blk.later h b0).cell 1
  have ld := (Blk.later h b0).lt
  simp only [List.getElem?_toArray, List.getElem?_cons_zero, List.getElem?_cons_succ] at c0 d1
  clear h b0 X0
  cases hd : decide (nn ≤ ro) with
  | true =>
    go_enter Tryz.func52, Tryz.ntmps52
    go_wp2_with fail
    go_ret
    exact ⟨rfl, HB.out⟩
  | false =>
    go_enter Tryz.func52, Tryz.ntmps52
    go_wp2_with fail
    go_ret
    exact ⟨rfl, HB.out⟩
set_option maxHeartbeats 1000000 in
theorem apply1_any (x : Gn) (xb : Nat) {kd nn k p e q : Int} {tx : Bool} {ad : Option Addr} {len cap : Nat} (w : World) (h : EBox w xb kd nn k p e q tx ad len cap) : Calls Tryz.prog 29 #[.agg #[.int .i64 x.prod, .int .i64 x.first, .int .i64 x.last], .pointer (some ⟨xb, 0, none⟩)] w fun e w' => e = .returned (.bool (decide (nn ≤ x.last))) ∧ Below w.heap.size w w' := by
  obtain ⟨gp, gf, gl⟩ := x
  obtain ⟨W0, hW0⟩ : ∃ W0, w.alloc (.cells #[.int .i64 gp, .int .i64 gf, .int .i64 gl] 75) = W0 := ⟨_, rfl⟩
  have b0 : Below w.heap.size w W0 := by rw [← hW0]; exact (Below.refl _ _).alloc (Nat.le_refl _) _
  have X0 : Blk W0 w.heap.size #[.int .i64 gp, .int .i64 gf, .int .i64 gl] 75 := by rw [← hW0]; exact heap_alloc_new w _
  have HB := hid b0
  have c2 := X0.cell 2
  have lx := X0.lt
  have d1 := (Blk.later h b0).cell 1
  have ld := (Blk.later h b0).lt
  simp only [List.getElem?_toArray, List.getElem?_cons_zero, List.getElem?_cons_succ] at c2 d1
  clear h b0 X0
  cases hd : decide (nn ≤ gl) with
  | true =>
    go_enter Tryz.func29, Tryz.ntmps29
    go_wp2_with fail
    go_ret
    exact ⟨rfl, HB.out⟩
  | false =>
    go_enter Tryz.func29, Tryz.ntmps29
    go_wp2_with fail
    go_ret
    exact ⟨rfl, HB.out⟩
set_option maxHeartbeats 1000000 in
theorem staying2_any (g : Lg) (r : Rw) (lb xb M n : Nat) {kd nn k p e q : Int} {tx : Bool} {ad : Option Addr} {len cap : Nat} (w : World) (h : EBox w xb kd nn k p e q tx ad len cap) (hl : Blk w lb #[.map (some M)] TMk) (hm : MapF w 9 M n (latF (fun r => decide (r.off < nn) && !g.dead r) g.rows (fun _ => none))) (hk : r.rc.key.size ≤ maxLen) : Calls Tryz.prog 54 #[.agg #[.int .i64 r.off, .int .i64 r.prod, .bool r.tx, .string r.rc.key, .string r.rc.val, .bool r.rc.dead], .pointer (some ⟨lb, 0, none⟩), .pointer (some ⟨xb, 0, none⟩)] w fun e w' => e = .returned (.bool (g.stays nn r)) ∧ Below w.heap.size w w' := by
  have hS : g.stays nn r = (decide (nn ≤ r.off) || g.latest nn r.rc.key == some r.off) := rfl
  obtain ⟨z, hz⟩ : ∃ z, g.latest nn r.rc.key = z := ⟨_, rfl⟩
  have hlk : ∀ W, MapF W 9 M n (latF (fun r => decide (r.off < nn) && !g.dead r) g.rows (fun _ => none)) → (Instr.lookup TMk (.map (some M)) (.string r.rc.key) true).run Tryz.prog W = .ok (.tuple #[.int .i64 (z.getD 0), .bool z.isSome]) W := fun W hW => by
    rw [hW.look_ok keyB Tryz.underlying104 (zeroK W) (keyOf_b _ hk), latest_look, hz]
    cases z <;> rfl
  rw [hS, hz]
  clear hz hS hk
  obtain ⟨ro, rp, rt, ⟨rk, rv, rd⟩⟩ := r
  dsimp only at hlk ⊢
  obtain ⟨W0, hW0⟩ : ∃ W0, w.alloc (.cells #[.int .i64 ro, .int .i64 rp, .bool rt, .string rk, .string rv, .bool rd] 51) = W0 := ⟨_, rfl⟩
  have b0 : Below w.heap.size w W0 := by rw [← hW0]; exact (Below.refl _ _).alloc (Nat.le_refl _) _
  have X0 : Blk W0 w.heap.size #[.int .i64 ro, .int .i64 rp, .bool rt, .string rk, .string rv, .bool rd] 51 := by rw [← hW0]; exact heap_alloc_new w _
  have HB := hid b0
  have hm0 : MapF W0 9 M n (latF (fun r => decide (r.off < nn) && !g.dead r) g.rows (fun _ => none)) := hm.keep (b0.block M hm.lt)
  have c0 := X0.cell 0
  have c3 := X0.cell 3
  have lx := X0.lt
  have d1 := (Blk.later h b0).cell 1
  have ld := (Blk.later h b0).lt
  have f0 := (hl.later b0).cell 0
  have lf := (hl.later b0).lt
  have hlk0 : (Instr.lookup TMk (.map (some M)) (.string rk) true).run Tryz.prog W0 = .ok (.tuple #[.int .i64 (z.getD 0), .bool z.isSome]) W0 := hlk W0 hm0
  simp only [List.getElem?_toArray, List.getElem?_cons_zero, List.getElem?_cons_succ] at c0 c3 d1 f0
  clear h b0 X0 hl hm hm0 hlk
  cases hd : decide (nn ≤ ro) with
  | true =>
    go_enter Tryz.func54, Tryz.ntmps54
    go_wp2_with fail
    go_ret
    exact ⟨rfl, HB.out⟩
  | false =>
    cases z with
    | none =>
      dsimp only [Option.getD_none, Option.isSome_none] at hlk0
      go_enter Tryz.func54, Tryz.ntmps54
      go_wp2_with fail
      go_ret
      exact ⟨rfl, HB.out⟩
    | some z =>
      dsimp only [Option.getD_some, Option.isSome_some] at hlk0
      have he : (some z == some ro) = (z == ro) := rfl
      rw [he]
      cases hq : (z == ro) with
      | true =>
        go_enter Tryz.func54, Tryz.ntmps54
        go_wp2_with fail
        go_ret
        exact ⟨rfl, HB.out⟩
      | false =>
        go_enter Tryz.func54, Tryz.ntmps54
        go_wp2_with fail
        go_ret
        exact ⟨rfl, HB.out⟩
end Go.Proofs.YtfgamkcnnijloaaGreat
