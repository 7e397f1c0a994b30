/- number of package chain's reader. -/
import Derived.Test.YthadagpfmacemaaCDecN
import Derived.Test.YthadagpfmacemaaCTrim
import Derived.Test.YthadagpfmacemaaGet
namespace Go.Proofs.Ythadagpfmacemaa
open Go.RowKit
variable {w w' : World} {ad : Option Addr} {len cap : Nat} {l : List Nat} {R p s : Nat}

/-- Block R reads the bytes at p. -/
def RdC (w : World) (R p : Nat) (ad : Option Addr) (len cap : Nat) : Prop := Blk w R #[.slice ad len cap, .int .i64 (p : Int)] 74
/-- Bytes that came in, as a reader has them. -/
structure Bts (w : World) (ad : Option Addr) (len cap : Nat) (l : List Nat) (R : Nat) : Prop where
  ok : Part.ok w ⟨ad, len, cap, l⟩
  cap : len ≤ cap
  max : len ≤ 1000000000000000
  ne : ∀ b off, ad = some ⟨b, off, none⟩ → l ≠ [] → b ≠ R
theorem Bts.len_eq (h : Bts w ad len cap l R) : l.length = len := h.ok.1
theorem Bts.lt (h : Bts w ad len cap l R) : ∀ x ∈ l, x < 256 := h.ok.2.2.1
theorem Bts.chg {F : List Nat} (h : Bts w ad len cap l R) (hb : Chg F w w') (hn : ∀ b off, ad = some ⟨b, off, none⟩ → l ≠ [] → b ∉ F) : Bts w' ad len cap l R := ⟨h.ok.chg hb hn, h.cap, h.max, h.ne⟩
theorem Bts.later (h : Bts w ad len cap l R) (hb : Below w.heap.size w w') : Bts w' ad len cap l R := ⟨h.ok.later hb, h.cap, h.max, h.ne⟩
set_option maxHeartbeats 1000000 in
theorem num_ok (hR : RdC w R p ad len cap) (hB : Bts w ad len cap l R) (h1 : 1 ≤ s) (h6 : s ≤ 6) (hin : p + s ≤ len) :
    Calls Try.prog 59 #[.pointer (some ⟨R, 0, none⟩), .int .i64 (s : Int)] w fun e w' => e = .returned (.int .i64 ((nAt l p s : Nat) : Int)) ∧ Hid (RdC w' R (p + s) ad len cap ∧ Chg [R] w w') := by
  have c0 : w.cell? ⟨R, 0, none⟩ = some (.slice ad len cap) := hR.cell 0
  have c1 : w.cell? ⟨R, 1, none⟩ = some (.int .i64 (p : Int)) := hR.cell 1
  have hg := getN_in l p s ⟨h1, h6⟩ (by rw [hB.len_eq]; exact hin)
  have HR : Hid (RdC w R p ad len cap) := hR
  have HB := hid hB
  have HG : Hid (∀ X, Below w.heap.size w X → Calls Try.prog 68 #[.slice ad len cap, .int .i64 (p : Int), .int .i64 (s : Int)] X fun e w' => e = .returned (.tuple #[.int .i64 ((nAt l p s : Nat) : Int), .int .i64 ((p + s : Nat) : Int), .int .i64 0]) ∧ Below X.heap.size X w') := hid (fun X hX => by
    have := get_any ad len cap l p s X (HB.out.later hX).ok HB.out.cap HB.out.max (by have := HB.out.max; omega)
    rw [hg] at this
    exact this)
  clear hR hB hg
  go_enter Try.func59, Try.ntmps59
  go_wp2_with fail
  have BD : Hid (Below w.heap.size w w.drew) := (Below.refl _ _).drew
  go_region_with (go_at_call 68; refine (HG.out _ BD.out).mono ?_; rintro e w1 ⟨rfl, b1⟩; have B1 : Hid (Below w.heap.size w w1) := BD.out.trans (b1.mono BD.out.size); have R1 : Hid (RdC w1 R p ad len cap) := HR.out.later B1.out; have k1 : w1.cell? ⟨R, 1, none⟩ = some (.int .i64 (p : Int)) := R1.out.cell 1; have f1 := R1.out.free 1; clear b1)
  all_goals go_wp2_with (go_at_call 31; refine (insist_ok _ _).mono ?_; rintro e w2 ⟨rfl, hw2⟩; obtain rfl := hw2.symm)
  all_goals go_ret
  all_goals exact ⟨rfl, hid ⟨R1.out.set 1 _, (Chg.of B1.out).trans ((Chg.refl _ _).set (Or.inl (by simp)) _ _) (fun k hk => Or.inl hk)⟩⟩
set_option maxHeartbeats 1000000 in
theorem num_no (hR : RdC w R p ad len cap) (hB : Bts w ad len cap l R) (h1 : 1 ≤ s) (h6 : s ≤ 6) (hin : ¬ p + s ≤ len) (hp : p ≤ 9223372036854775807) :
    Calls Try.prog 59 #[.pointer (some ⟨R, 0, none⟩), .int .i64 (s : Int)] w fun e w' => e = .panicked (refusal 22) ∧ Below w.heap.size w w' := by
  have c0 : w.cell? ⟨R, 0, none⟩ = some (.slice ad len cap) := hR.cell 0
  have c1 : w.cell? ⟨R, 1, none⟩ = some (.int .i64 (p : Int)) := hR.cell 1
  have hg := getN_end l p s ⟨by omega, by omega, by omega⟩ (by rw [hB.len_eq]; omega)
  have HR : Hid (RdC w R p ad len cap) := hR
  have HB := hid hB
  have HG : Hid (∀ X, Below w.heap.size w X → Calls Try.prog 68 #[.slice ad len cap, .int .i64 (p : Int), .int .i64 (s : Int)] X fun e w' => e = .returned (.tuple #[.int .i64 0, .int .i64 0, .int .i64 20]) ∧ Below X.heap.size X w') := hid (fun X hX => by
    have := get_any ad len cap l p s X (HB.out.later hX).ok HB.out.cap HB.out.max (by omega)
    rw [hg] at this
    exact this)
  clear hR hB hg
  go_enter Try.func59, Try.ntmps59
  go_wp2_with fail
  have BD : Hid (Below w.heap.size w w.drew) := (Below.refl _ _).drew
  go_region_with (go_at_call 68; refine (HG.out _ BD.out).mono ?_; rintro e w1 ⟨rfl, b1⟩; have B1 : Hid (Below w.heap.size w w1) := BD.out.trans (b1.mono BD.out.size); clear b1)
  all_goals go_wp2_with (go_at_call 31; refine (insist_no _ _).mono ?_; rintro e w2 ⟨rfl, hw2⟩; obtain rfl := hw2.symm)
  all_goals exact ⟨rfl, rfl, B1.out⟩
end Go.Proofs.Ythadagpfmacemaa
