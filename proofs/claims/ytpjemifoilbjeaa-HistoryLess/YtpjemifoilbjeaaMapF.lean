/- A map in memory as a function of its keys: what a look-up, a store, a delete make of it. No function of the program is named here. -/
import Derived.Test.YtpjemifoilbjeaaPWide
import Derived.Maps.OwnSet
import Derived.DeepKeys4
namespace Go.Proofs.Ytpjemifoilbjeaa
open Go.RowKit

/-- How a map's element is read: as it is. -/
def RV (v : Value) : Option (DataW Value × List MemPlace) := some (.held v, [])
/-- In w the map at M has just what f says; n bounds its size. -/
def MapF (w : World) (T : TypeId) (M n : Nat) (f : Lit → Option Value) : Prop :=
  ∃ Dm : DataW Value, w.ownsMap Try.prog T RV M n Dm ∧ (∀ kl, Maps.has Dm kl = (f kl).isSome) ∧ ∀ kl v, f kl = some v → ∀ z, Dm.atKey kl z = .held v
open Classical in
/-- f, but for one key. -/
noncomputable def updF (f : Lit → Option Value) (kl : Lit) (x : Option Value) : Lit → Option Value := fun k => if k = kl then x else f k
theorem updF_same (f : Lit → Option Value) (kl : Lit) (x : Option Value) : updF f kl x kl = x := by simp [updF]
theorem updF_other (f : Lit → Option Value) {k kl : Lit} (h : k ≠ kl) (x : Option Value) : updF f kl x k = f k := by simp [updF, h]
variable {w w' : World} {T t e : TypeId} {M n : Nat} {f : Lit → Option Value}
theorem MapF.lt (h : MapF w T M n f) : M < w.heap.size := by
  obtain ⟨Dm, h, _⟩ := h
  exact h.lt
theorem MapF.isMap (h : MapF w T M n f) : ∃ es c, w.heap[M]? = some (.map es c) := by
  obtain ⟨Dm, ⟨es, c, hb, _⟩, _⟩ := h
  exact ⟨es, c, hb⟩
theorem MapF.keep (h : MapF w T M n f) (hk : w'.heap[M]? = w.heap[M]?) : MapF w' T M n f := by
  obtain ⟨Dm, ⟨es, c, hb, r⟩, h2, h3⟩ := h
  exact ⟨Dm, ⟨es, c, hk.trans hb, r⟩, h2, h3⟩
theorem MapF.mono (h : MapF w T M n f) {m : Nat} (hm : n ≤ m) : MapF w T M m f := by
  obtain ⟨Dm, h1, h2⟩ := h
  exact ⟨Dm, h1.mono hm, h2⟩
theorem MapF.congr (h : MapF w T M n f) {g : Lit → Option Value} (hg : ∀ kl, f kl = g kl) : MapF w T M n g := by
  obtain rfl : f = g := funext hg
  exact h
theorem MapF.empty (h : w.heap[M]? = some (.map #[] 0)) : MapF w T M 0 (fun _ => none) :=
  ⟨.map [], ⟨#[], 0, h, ⟨by simp, MapKept.stamped_empty 0, by simp⟩, Nat.le_refl _, rfl⟩, fun _ => rfl, fun _ _ h => by cases h⟩
theorem MapF.look_ok (h : MapF w T M n f) (K : Maps.Keyed Try.prog T) (ht : Try.prog.underlying t = some (.map T e)) {z : Value} (hz : (zeroValue e).run Try.prog w = .ok z w) {key : Value} {kl : Lit} (hkey : keyOf Try.prog T key = some kl) :
    (Instr.lookup t (.map (some M)) key true).run Try.prog w = .ok (.tuple #[(f kl).getD z, .bool (f kl).isSome]) w := by
  obtain ⟨Dm, h1, h2, h3⟩ := h
  obtain ⟨v, ps, hr, hv⟩ := h1.look_ok K ht hz (zd := .held z) (zp := []) rfl hkey
  rw [hr, h2]
  simp only [RV, Option.some.injEq, Prod.mk.injEq] at hv
  cases hf : f kl with
  | none =>
    have h4 : Maps.has Dm kl = false := by rw [h2, hf]; rfl
    rw [Maps.atKey_of_not_has h4] at hv
    rw [DataW.held.inj hv.1]; rfl
  | some x =>
    rw [h3 kl x hf] at hv
    rw [DataW.held.inj hv.1]; rfl
theorem MapF.look (h : MapF w T M n f) (K : Maps.Keyed Try.prog T) (ht : Try.prog.underlying t = some (.map T e)) {z : Value} (hz : (zeroValue e).run Try.prog w = .ok z w) {key : Value} {kl : Lit} (hkey : keyOf Try.prog T key = some kl) :
    (Instr.lookup t (.map (some M)) key false).run Try.prog w = .ok ((f kl).getD z) w := by
  obtain ⟨Dm, h1, h2, h3⟩ := h
  obtain ⟨v, ps, hr, hv⟩ := h1.lookup K ht hz (zd := .held z) (zp := []) rfl hkey
  rw [hr]
  simp only [RV, Option.some.injEq, Prod.mk.injEq] at hv
  cases hf : f kl with
  | none =>
    have h4 : Maps.has Dm kl = false := by rw [h2, hf]; rfl
    rw [Maps.atKey_of_not_has h4] at hv
    rw [DataW.held.inj hv.1]; rfl
  | some x =>
    rw [h3 kl x hf] at hv
    rw [DataW.held.inj hv.1]; rfl
theorem turned_chg (h : w.mapTurned w' M) : Chg [M] w w' := by
  have hg := h.grown
  exact ⟨hg.os, hg.tape, hg.output, hg.size, fun k hk hn => hg.block k hk (fun e => hn (by cases e; simp))⟩
theorem MapF.store (h : MapF w T M n f) (K : Maps.Keyed Try.prog T) (ht : Try.prog.underlying t = some (.map T e)) (hn : n < maxLen) {key val : Value} {kl : Lit} (hkey : keyOf Try.prog T key = some kl) :
    ∃ w', (Instr.mapUpdate t (.map (some M)) key val).run Try.prog w = .ok () w' ∧ MapF w' T M (n + 1) (updF f kl (some val)) ∧ Chg [M] w w' := by
  obtain ⟨Dm, h1, h2, h3⟩ := h
  obtain ⟨w', hr, h4, h5⟩ := h1.store K ht hn (d := .held val) (ps := []) hkey rfl
  refine ⟨w', hr, ⟨_, h4, fun k => ?_, fun k v hk z => ?_⟩, turned_chg h5⟩
  · by_cases hkk : k = kl
    · subst hkk; rw [Maps.has_put_same h1.isMap (K.key hkey), updF_same]; rfl
    · rw [Maps.has_put_other hkk, h2, updF_other f hkk]
  · by_cases hkk : k = kl
    · subst hkk; rw [Maps.atKey_put_same h1.isMap (K.key hkey)]; rw [updF_same] at hk; cases hk; rfl
    · rw [Maps.atKey_put_other hkk]; rw [updF_other f hkk] at hk; exact h3 k v hk z
theorem MapF.drop (h : MapF w T M n f) (K : Maps.Keyed Try.prog T) (ht : Try.prog.underlying t = some (.map T e)) {key : Value} {kl : Lit} (hkey : keyOf Try.prog T key = some kl) (ty : TypeId) :
    ∃ w', (Builtin.delete_ #[t, T] ty #[.map (some M), key]).run Try.prog w = .ok (.tuple #[]) w' ∧ MapF w' T M n (updF f kl none) ∧ Chg [M] w w' := by
  obtain ⟨Dm, h1, h2, h3⟩ := h
  obtain ⟨w', hr, h4, h5⟩ := h1.drop K ht hkey ty
  refine ⟨w', hr, ⟨_, h4, fun k => ?_, fun k v hk z => ?_⟩, turned_chg h5⟩
  · by_cases hkk : k = kl
    · subst hkk; rw [Maps.has_del_same, updF_same]; rfl
    · rw [Maps.has_del_other hkk, h2, updF_other f hkk]
  · by_cases hkk : k = kl
    · subst hkk; rw [updF_same] at hk; cases hk
    · rw [Maps.atKey_del_other hkk]; rw [updF_other f hkk] at hk; exact h3 k v hk z
end Go.Proofs.Ytpjemifoilbjeaa
