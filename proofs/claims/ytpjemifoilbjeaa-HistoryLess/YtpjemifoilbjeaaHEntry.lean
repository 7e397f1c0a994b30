/- 'm[k] = v' of a map that has no such key, as a place first and a store behind it. No function of the program is named here. -/
import Derived.Test.YtpjemifoilbjeaaHMem
import Derived.WideKeyEntry
namespace Go.Proofs.Ytpjemifoilbjeaa
open Go.RowKit Go.ChangeMaps Hy
variable {w w' : World} {T t e : TypeId} {M n : Nat} {f : Lit → Option Value}

theorem setBlock_two (w : World) (b : Nat) (o p : Obj) : setBlock (setBlock w b o) b p = setBlock w b p := by
  unfold setBlock
  simp
theorem setBlock_chg {es : Array MapEntry} {c : Nat} (hb : w.heap[M]? = some (.map es c)) (es' : Array MapEntry) (c' : Nat) : Chg [M] w (setBlock w M (.map es' c')) :=
  turned_chg ⟨es, c, es', c', hb, rfl⟩
theorem MapF.entry_new (h : MapF w T M n f) (K : Maps.Keyed Try.prog T) (ht : Try.prog.underlying t = some (.map T e)) (hn : n < maxLen) {z : Value} (hz : ∀ u, (zeroValue e).run Try.prog u = .ok z u) {key : Value} {kl : Lit} (hkey : keyOf Try.prog T key = some kl) (hno : f kl = none) (val : Value) :
    ∃ (st : Nat) (W1 W2 : World), (Instr.mapEntry t (.map (some M)) key).run Try.prog w = .ok (.tuple #[z, .int .i64 (st : Int)]) W1 ∧ (Instr.entryStore t (.map (some M)) (.int .i64 (st : Int)) val).run Try.prog W1 = .ok () W2 ∧ MapF W2 T M (n + 1) (updF f kl (some val)) ∧ Chg [M] w W1 ∧ Chg [M] W1 W2 ∧ W1.heap.size = w.heap.size := by
  have hlk := h.look_ok K ht (hz w) hkey
  obtain ⟨w', hrun, hM, -⟩ := h.store K ht hn (val := val) hkey
  obtain ⟨Dm, ⟨es, clock, hb, F, hsz, hD⟩, h2, h3⟩ := h
  obtain ⟨s1, s2, -⟩ := F.stamped
  rw [hno] at hlk
  rcases K.find w hkey es.toList F.keys with ⟨k1, k2⟩ | ⟨j, e0, k1, k2, k3⟩
  · have hidx : (es.push ⟨key, z, clock⟩).findIdx? (fun e => ((e.born : Nat) : Int) == ((clock : Nat) : Int)) = some es.size := by
      rw [WideElems.findIdx_arr]
      exact WideElems.findIdx_born (l := (es.push ⟨key, z, clock⟩).toList) (j := es.size) (e0 := ⟨key, z, clock⟩) (by
        simp only [Array.toList_push, List.map_append, List.map_cons, List.map_nil]
        refine List.nodup_append.2 ⟨s2, by simp, fun a ha c hc e1 => ?_⟩
        simp only [List.mem_singleton] at hc
        obtain ⟨x, hx, rfl⟩ := List.mem_map.1 ha
        have := s1 x hx
        omega) (by simp)
    have hmod : (es.push ⟨key, z, clock⟩).modify es.size (fun e => { e with val := val }) = es.push ⟨key, val, clock⟩ := by
      apply Array.ext'
      rw [Array.toList_modify, Array.toList_push, Array.toList_push, ← Array.length_toList, WideElems.modify_last]
    have hb1 : (setBlock w M (.map (es.push ⟨key, z, clock⟩) (clock + 1))).heap[M]? = some (.map (es.push ⟨key, z, clock⟩) (clock + 1)) := heap_setBlock_same hb _
    have hst : ∀ W1 : World, W1.heap[M]? = some (.map (es.push ⟨key, z, clock⟩) (clock + 1)) → (Instr.entryStore t (.map (some M)) (.int .i64 (clock : Int)) val).run Try.prog W1 = .ok () (setBlock W1 M (.map (es.push ⟨key, val, clock⟩) (clock + 1))) := fun W1 hb2 => by
      simp [Instr.entryStore, MapKept.run_getObj_map hb2, asInt, asIntOf, hidx, hmod, MapKept.run_setObj_map _ hb2, Result.andThen, setBlock]
    have hup : (Instr.mapUpdate t (.map (some M)) key val).run Try.prog w = .ok () (setBlock w M (.map (es.push ⟨key, val, clock⟩) (clock + 1))) := by
      simp [Instr.mapUpdate, run_underlying ht, MapKept.run_getObj_map hb, K.check w false hkey, k1, MapKept.run_setObj_map _ hb, Result.andThen, setBlock]
    rw [hup] at hrun
    injection hrun with _ hrun
    subst hrun
    refine ⟨clock, setBlock w M (.map (es.push ⟨key, z, clock⟩) (clock + 1)), setBlock w M (.map (es.push ⟨key, val, clock⟩) (clock + 1)), ?_, ?_, hM, setBlock_chg hb _ _, ?_, by simp [setBlock]⟩
    · simp [Instr.mapEntry, run_underlying ht, MapKept.run_getObj_map hb, K.check w false hkey, k1, hz, MapKept.run_setObj_map _ hb, Result.andThen, setBlock, goInt]
    · rw [hst _ hb1, setBlock_two]
    · have h := setBlock_chg hb1 (es.push ⟨key, val, clock⟩) (clock + 1)
      rw [setBlock_two] at h
      exact h
  · exfalso
    have hy : (Instr.lookup t (.map (some M)) key true).run Try.prog w = .ok (.tuple #[e0.val, .bool true]) w := by
      simp [Instr.lookup, run_underlying ht, MapKept.run_getObj_map hb, K.check w _ hkey, k1, Result.andThen]
    rw [hy] at hlk
    injection hlk with hlk
    simp at hlk
end Go.Proofs.Ytpjemifoilbjeaa
