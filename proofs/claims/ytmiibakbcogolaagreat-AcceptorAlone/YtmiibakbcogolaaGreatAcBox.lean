/- Boxes of Asks. -/
import Derived.Test.YtmiibakbcogolaaGreatAcUnpack
import Derived.Test.YtmiibakbcogolaaGreatAcMay0
import Derived.Test.YtmiibakbcogolaaGreatFoot
import Derived.Laws.ResultCell
import Derived.Deep.DeepCutAuto
import Derived.Deep.RegionWith
namespace Go.Proofs.YtmiibakbcogolaaGreat.Ac
open Go.RowKit Crcm

/-- Five values are stored in a box, cell by cell. -/
def set5 (w : World) (B : Nat) (a b c d e : Value) : World := ((((w.setCell ⟨B, 0, none⟩ a).setCell ⟨B, 1, none⟩ b).setCell ⟨B, 2, none⟩ c).setCell ⟨B, 3, none⟩ d).setCell ⟨B, 4, none⟩ e
theorem blk_set5 {T : TypeId} {w : World} {B : Nat} {a0 b0 c0 d0 e0 : Value} (h : Blk w B #[a0, b0, c0, d0, e0] T) (a b c d e : Value) : Blk (set5 w B a b c d e) B #[a, b, c, d, e] T :=
  ((((h.set 0 a).set 1 b).set 2 c).set 3 d).set 4 e
theorem set5_below {N : Nat} {w0 w : World} (h : Below N w0 w) {B : Nat} (hB : N ≤ B) (a b c d e : Value) : Below N w0 (set5 w B a b c d e) :=
  ((((h.setCell (p := ⟨B, 0, none⟩) hB _).setCell (p := ⟨B, 1, none⟩) hB _).setCell (p := ⟨B, 2, none⟩) hB _).setCell (p := ⟨B, 3, none⟩) hB _).setCell (p := ⟨B, 4, none⟩) hB _
theorem part_set5 {w : World} {g o n c B : Nat} {b : List Nat} {x y z u t : Value} (h : Part.ok w ⟨some ⟨g, o, none⟩, n, c, b⟩) (hne : B < g) : Part.ok (set5 w B x y z u t) ⟨some ⟨g, o, none⟩, n, c, b⟩ := part_set (part_set (part_set (part_set (part_set h hne) hne) hne) hne) hne
theorem blk_below {T : TypeId} {w w' : World} {B N : Nat} {cs : Array Value} (h : Blk w B cs T) (hb : Below N w w') (hN : B < N) : Blk w' B cs T := (hb.block B hN).trans h
theorem blk_new (T : TypeId) (w : World) (cs : Array Value) : Blk (w.alloc (.cells cs T)) w.heap.size cs T := heap_alloc_last w _
theorem blk5 {T : TypeId} {w : World} {B : Nat} {a b c d e : Value} (h : Blk w B #[a, b, c, d, e] T) : (w.cell? ⟨B, 0, none⟩ = some a ∧ w.cell? ⟨B, 1, none⟩ = some b ∧ w.cell? ⟨B, 2, none⟩ = some c ∧ w.cell? ⟨B, 3, none⟩ = some d ∧ w.cell? ⟨B, 4, none⟩ = some e) ∧ w.frozen? ⟨B, 0, none⟩ = false ∧ w.frozen? ⟨B, 1, none⟩ = false ∧ w.frozen? ⟨B, 2, none⟩ = false ∧ w.frozen? ⟨B, 3, none⟩ = false ∧ w.frozen? ⟨B, 4, none⟩ = false :=
  ⟨⟨h.cell 0, h.cell 1, h.cell 2, h.cell 3, h.cell 4⟩, h.free 0, h.free 1, h.free 2, h.free 3, h.free 4⟩
theorem ret_ask {fn : Func} {p u : Tmp} (h : fn.results = #[.cell p 30, .tmp u]) (tmps : Array Value) (w : World) (B : Nat) (k g v b : Int) (ad : Option Addr) (len cap : Nat)
    (hp : tmps.getD p undef = .pointer (some ⟨B, 0, none⟩)) (hg : Blk w B #[.int .i64 k, .int .i64 g, .int .i64 v, .int .i64 b, .slice ad len cap] 30) :
    (results fn tmps).run Tryz.prog w = .ok (.tuple #[askV k g v b ad len cap, tmps.getD u undef]) w := by
  rw [results_cell_tmp h, hp]
  have hl := run_loadVar_row (P := Tryz.prog) w B 30 30 _ (0, 0) _ hg Tryz.underlying30 rfl (by kernel_rfl)
  simp only [asAddr, Sem.run_pure, Result.andThen_ok]
  rw [hl]
  rfl
/-- What the body of an Ask tells. -/
def askK (b : List Nat) : Nat := valN ((b.drop 0).take 1)
def askG (b : List Nat) : Nat := valN ((b.drop 1).take 6)
def askW (b : List Nat) : Nat := valN ((b.drop 7).take 6)
def askB (b : List Nat) : Nat := valN ((b.drop 13).take 6)
/-- P802: the body tells an Ask that may be. -/
def askIn (b : List Nat) : Bool := askMay (askK b) (askG b) (askW b) (askB b) (b.length - 19)
end Go.Proofs.YtmiibakbcogolaaGreat.Ac
