/- Calls in memory: a slice of them, as it lies somewhere; maps by numbers and by names. -/
import Derived.Test.YtpjemifoilbjeaaHyL
import Derived.Test.YtpjemifoilbjeaaMapF
import Derived.StringKeys
namespace Go.Proofs.Ytpjemifoilbjeaa
open Go.RowKit Hy
variable {w w' : World}

abbrev HcA := Hc × Sl
def hz0 : HcA := (hc0, sl0)
/-- The program's calls. -/
abbrev kC : Kd HcA := ⟨34, 23, 7, 72, fun x => [.bool x.1.rd, .bool x.1.dn, .int .i64 x.1.bg, .int .i64 x.1.en, .int .i64 x.1.off, .string (nmS x.1.val), .slice x.2.ad x.2.m x.2.c], (hc0, sl0), .agg #[.bool false, .bool false, .int .i64 0, .int .i64 0, .int .i64 0, .string ⟨#[]⟩, .slice none 0 0]⟩
theorem kC_ok : kC.ok := ⟨⟨fun _ => rfl, by decide⟩, fun a v hv => by
  have : v = .bool a.1.rd ∨ v = .bool a.1.dn ∨ v = .int .i64 a.1.bg ∨ v = .int .i64 a.1.en ∨ v = .int .i64 a.1.off ∨ v = .string (nmS a.1.val) ∨ v = .slice a.2.ad a.2.m a.2.c := by simpa using hv
  rcases this with rfl | rfl | rfl | rfl | rfl | rfl | rfl <;> rfl, by kernel_rfl, rfl, Try.underlying23⟩
/-- Texts that are as texts may be. -/
def Small (c : Hc) : Prop := c.val.length ≤ maxLen ∧ ∀ v ∈ c.vals, v.length ≤ maxLen
/-- In w the calls l lie as a slice; A says besides where each one's values lie. -/
structure HV (K : Kd HcA) (w : World) (A : List HcA) (ad : Option Addr) (m c : Nat) : Prop where
  row : ArgK K w A ad m c
  part : ∀ i, i < m → ArgK kS w (A.getD i hz0).1.vals (A.getD i hz0).2.ad (A.getD i hz0).2.m (A.getD i hz0).2.c
  small : ∀ i, i < m → Small (A.getD i hz0).1
variable {K : Kd HcA} {A : List HcA} {ad : Option Addr} {m c : Nat}
theorem HV.later (h : HV K w A ad m c) (hb : Below w.heap.size w w') : HV K w' A ad m c := ⟨h.row.later hb, fun i hi => (h.part i hi).later hb, h.small⟩
/-- The calls alone. -/
def cls (A : List HcA) : List Hc := A.map (·.1)
theorem cls_len (A : List HcA) : (cls A).length = A.length := by unfold cls; simp
theorem ca_cls (A : List HcA) (i : Nat) : ca (cls A) i = (A.getD i hz0).1 := by
  unfold ca cls
  rw [List.getD_eq_getElem?_getD, List.getElem?_map, List.getD_eq_getElem?_getD]
  cases A[i]? <;> rfl
/-- Its cells, for a call at a place. -/
theorem HV.at (h : HV kC w A ad m c) {i : Nat} (hi : i < m) : ∃ b off, ad = some ⟨b, off, none⟩ ∧ b < w.heap.size ∧ w.cell? ⟨b, off + i * 7, none⟩ = some (.bool (A.getD i hz0).1.rd) ∧ w.cell? ⟨b, off + i * 7 + 1, none⟩ = some (.bool (A.getD i hz0).1.dn) ∧ w.cell? ⟨b, off + i * 7 + 2, none⟩ = some (.int .i64 (A.getD i hz0).1.bg) ∧ w.cell? ⟨b, off + i * 7 + 3, none⟩ = some (.int .i64 (A.getD i hz0).1.en) ∧ w.cell? ⟨b, off + i * 7 + 4, none⟩ = some (.int .i64 (A.getD i hz0).1.off) ∧ w.cell? ⟨b, off + i * 7 + 5, none⟩ = some (.string (nmS (A.getD i hz0).1.val)) ∧ w.cell? ⟨b, off + i * 7 + 6, none⟩ = some (.slice (A.getD i hz0).2.ad (A.getD i hz0).2.m (A.getD i hz0).2.c) := by
  obtain ⟨b, off, e, hb, hc⟩ := h.row.cells (by omega)
  exact ⟨b, off, e, hb, hc i hi 0 (by decide), hc i hi 1 (by decide), hc i hi 2 (by decide), hc i hi 3 (by decide), hc i hi 4 (by decide), hc i hi 5 (by decide), hc i hi 6 (by decide)⟩
/-! ### Maps -/
abbrev TIi : TypeId := 51
abbrev TSi : TypeId := 47
def litZ (p : Int) : Lit := .int .i64 p
def intF (f : Int → Option Int) : Lit → Option Value
  | .int .i64 p => (f p).map (Value.int .i64)
  | _ => none
def strF (f : Nm → Option Int) : Lit → Option Value
  | .string s => (f s).map (Value.int .i64)
  | _ => none
theorem keyI : Maps.Keyed Try.prog 3 := Maps.int_keyed Try.underlying3
theorem keyN : Maps.Keyed Try.prog 9 := Maps.string_keyed Try.underlying9
theorem keyOf_z {p : Int} (h1 : -9223372036854775808 ≤ p) (h2 : p ≤ 9223372036854775807) : keyOf Try.prog 3 (.int .i64 p) = some (litZ p) :=
  Maps.keyOf_int_mk Try.underlying3 (by have e1 : IntKind.i64.min = -9223372036854775808 := rfl; have e2 : IntKind.i64.max = 9223372036854775807 := rfl; simp [Lit.wf, e1, e2]; omega)
theorem keyOf_n (s : Nm) (hs : s.length ≤ maxLen) : keyOf Try.prog 9 (.string (nmS s)) = some (.string s) := by
  rw [Go.WideMaps.keyOf_string_mk Try.underlying9 (by show s.toArray.size ≤ maxLen; simpa using hs)]
  rfl
theorem intF_z (f : Int → Option Int) (p : Int) : intF f (litZ p) = (f p).map (Value.int .i64) := rfl
theorem strF_n (f : Nm → Option Int) (s : Nm) : strF f (.string s) = (f s).map (Value.int .i64) := rfl
theorem intF_set (f : Int → Option Int) (p : Int) (y : Int) : ∀ kl, updF (intF f) (litZ p) (some (.int .i64 y)) kl = intF (setN f p (some y)) kl := by
  intro kl
  by_cases h : kl = litZ p
  · subst h; rw [updF_same]; simp [intF, litZ, setN]
  · rw [updF_other _ h]
    unfold intF
    split
    · rename_i q
      have hq : q ≠ p := fun e => h (by rw [e]; rfl)
      rw [setN_other _ hq]
    · rfl
theorem strF_set (f : Nm → Option Int) (s : Nm) (y : Int) : ∀ kl, updF (strF f) (.string s) (some (.int .i64 y)) kl = strF (setN f s (some y)) kl := by
  intro kl
  by_cases h : kl = .string s
  · subst h; rw [updF_same]; simp [strF, setN]
  · rw [updF_other _ h]
    unfold strF
    split
    · rename_i q
      have hq : q ≠ s := fun e => h (by rw [e])
      rw [setN_other _ hq]
    · rfl
theorem zeroI (w : World) : (zeroValue 3).run Try.prog w = .ok (.int .i64 0) w := by
  have h : (Try.prog.info? 3).map (fun i => (i.zero, i.size, i.bytes)) = some (some (.int .i64 0), 1, 8) := by kernel_rfl
  obtain ⟨i0, hi, hz0, hz1, hz2⟩ := info_parts h
  simp [zeroValue, typeInfo, hi, hz0]
end Go.Proofs.Ytpjemifoilbjeaa
