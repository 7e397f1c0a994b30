/- A map in memory as a function of its keys: what a look-up, a store, a delete make of it. No function of the program is named here. A table of package producer in memory. Steps of a drawn region that load or store a state. The producers of a table, in their order: slices.Sorted of maps.Keys, rising. A ledger in memory. What the steps of a ledger leave in memory. slices.Delete of one open transaction. -/
import Derived.Test.YtfgamkcnnijloaaGreatPZN
import Derived.Maps.OwnSet
import Derived.DeepKeys4
import Derived.Test.YtfgamkcnnijloaaGreatPZPW
import Derived.Deep.RegionHeld3
import Derived.Test.YtfgamkcnnijloaaGreatSortPlain
import Derived.Lib.SlKeysI
import Derived.Maps.Ext
import Derived.Deep.RegionLaw
import Derived.ArgAppend
import Derived.Laws.CopyRow
import Derived.Laws.CopyOwn
namespace Go.Proofs.YtfgamkcnnijloaaGreat
open Go.RowKit

/-- How a map's element is read: as it is. -/
def RV (v : Value) : Option (DataW Value × List MemPlace) := some (.held v, [])
/-- In w the map at M has just what f says; n bounds its size. -/
def MapF (w : World) (T : TypeId) (M n : Nat) (f : Lit → Option Value) : Prop :=
  ∃ Dm : DataW Value, w.ownsMap Tryz.prog T RV M n Dm ∧ (∀ kl, Maps.has Dm kl = (f kl).isSome) ∧ ∀ kl v, f kl = some v → ∀ z, Dm.atKey kl z = .held v
open Classical in
/-- f, but for one key. -/
noncomputable def updF (f : Lit → Option Value) (kl : Lit) (x : Option Value) : Lit → Option Value := fun k => if k = kl then x else f k
theorem updF_same (f : Lit → Option Value) (kl : Lit) (x : Option Value) : updF f kl x kl = x := by simp [updF]
theorem updF_other (f : Lit → Option Value) {k kl : Lit} (h : k ≠ kl) (x : Option Value) : updF f kl x k = f k := by simp [updF, h]
variable {w w' : World} {T t e : TypeId} {M n : Nat} {f : Lit → Option Value}
theorem MapF.lt (h : MapF w T M n f) : M < w.heap.size := by
  obtain ⟨Dm, h, _⟩ := h
  exact h.lt
theorem MapF.isMap (h : MapF w T M n f) : ∃ es c, w.heap[M]? = some (.map es c) := by
  obtain ⟨Dm, ⟨es, c, hb, _⟩, _⟩ := h
  exact ⟨es, c, hb⟩
theorem MapF.keep (h : MapF w T M n f) (hk : w'.heap[M]? = w.heap[M]?) : MapF w' T M n f := by
  obtain ⟨Dm, ⟨es, c, hb, r⟩, h2, h3⟩ := h
  exact ⟨Dm, ⟨es, c, hk.trans hb, r⟩, h2, h3⟩
theorem MapF.mono (h : MapF w T M n f) {m : Nat} (hm : n ≤ m) : MapF w T M m f := by
  obtain ⟨Dm, h1, h2⟩ := h
  exact ⟨Dm, h1.mono hm, h2⟩
theorem MapF.congr (h : MapF w T M n f) {g : Lit → Option Value} (hg : ∀ kl, f kl = g kl) : MapF w T M n g := by
  obtain rfl : f = g := funext hg
  exact h
theorem MapF.empty (h : w.heap[M]? = some (.map #[] 0)) : MapF w T M 0 (fun _ => none) :=
  ⟨.map [], ⟨#[], 0, h, ⟨by simp, MapKept.stamped_empty 0, by simp⟩, Nat.le_refl _, rfl⟩, fun _ => rfl, fun _ _ h => by cases h⟩
theorem MapF.look_ok (h : MapF w T M n f) (K : Maps.Keyed Tryz.prog T) (ht : Tryz.prog.underlying t = some (.map T e)) {z : Value} (hz : (zeroValue e).run Tryz.prog w = .ok z w) {key : Value} {kl : Lit} (hkey : keyOf Tryz.prog T key = some kl) :
    (Instr.lookup t (.map (some M)) key true).run Tryz.prog w = .ok (.tuple #[(f kl).getD z, .bool (f kl).isSome]) w := by
  obtain ⟨Dm, h1, h2, h3⟩ := h
  obtain ⟨v, ps, hr, hv⟩ := h1.look_ok K ht hz (zd := .held z) (zp := []) rfl hkey
  rw [hr, h2]
  simp only [RV, Option.some.injEq, Prod.mk.injEq] at hv
  cases hf : f kl with
  | none =>
    have h4 : Maps.has Dm kl = false := by rw [h2, hf]; rfl
    rw [Maps.atKey_of_not_has h4] at hv
    rw [DataW.held.inj hv.1]; rfl
  | some x =>
    rw [h3 kl x hf] at hv
    rw [DataW.held.inj hv.1]; rfl
theorem MapF.look (h : MapF w T M n f) (K : Maps.Keyed Tryz.prog T) (ht : Tryz.prog.underlying t = some (.map T e)) {z : Value} (hz : (zeroValue e).run Tryz.prog w = .ok z w) {key : Value} {kl : Lit} (hkey : keyOf Tryz.prog T key = some kl) :
    (Instr.lookup t (.map (some M)) key false).run Tryz.prog w = .ok ((f kl).getD z) w := by
  obtain ⟨Dm, h1, h2, h3⟩ := h
  obtain ⟨v, ps, hr, hv⟩ := h1.lookup K ht hz (zd := .held z) (zp := []) rfl hkey
  rw [hr]
  simp only [RV, Option.some.injEq, Prod.mk.injEq] at hv
  cases hf : f kl with
  | none =>
    have h4 : Maps.has Dm kl = false := by rw [h2, hf]; rfl
    rw [Maps.atKey_of_not_has h4] at hv
    rw [DataW.held.inj hv.1]; rfl
  | some x =>
    rw [h3 kl x hf] at hv
    rw [DataW.held.inj hv.1]; rfl
theorem turned_chg (h : w.mapTurned w' M) : Chg [M] w w' := by
  have hg := h.grown
  exact ⟨hg.os, hg.tape, hg.output, hg.size, fun k hk hn => hg.block k hk (fun e => hn (by cases e; simp))⟩
theorem MapF.store (h : MapF w T M n f) (K : Maps.Keyed Tryz.prog T) (ht : Tryz.prog.underlying t = some (.map T e)) (hn : n < maxLen) {key val : Value} {kl : Lit} (hkey : keyOf Tryz.prog T key = some kl) :
    ∃ w', (Instr.mapUpdate t (.map (some M)) key val).run Tryz.prog w = .ok () w' ∧ MapF w' T M (n + 1) (updF f kl (some val)) ∧ Chg [M] w w' := by
  obtain ⟨Dm, h1, h2, h3⟩ := h
  obtain ⟨w', hr, h4, h5⟩ := h1.store K ht hn (d := .held val) (ps := []) hkey rfl
  refine ⟨w', hr, ⟨_, h4, fun k => ?_, fun k v hk z => ?_⟩, turned_chg h5⟩
  · by_cases hkk : k = kl
    · subst hkk; rw [Maps.has_put_same h1.isMap (K.key hkey), updF_same]; rfl
    · rw [Maps.has_put_other hkk, h2, updF_other f hkk]
  · by_cases hkk : k = kl
    · subst hkk; rw [Maps.atKey_put_same h1.isMap (K.key hkey)]; rw [updF_same] at hk; cases hk; rfl
    · rw [Maps.atKey_put_other hkk]; rw [updF_other f hkk] at hk; exact h3 k v hk z
theorem MapF.drop (h : MapF w T M n f) (K : Maps.Keyed Tryz.prog T) (ht : Tryz.prog.underlying t = some (.map T e)) {key : Value} {kl : Lit} (hkey : keyOf Tryz.prog T key = some kl) (ty : TypeId) :
    ∃ w', (Builtin.delete_ #[t, T] ty #[.map (some M), key]).run Tryz.prog w = .ok (.tuple #[]) w' ∧ MapF w' T M n (updF f kl none) ∧ Chg [M] w w' := by
  obtain ⟨Dm, h1, h2, h3⟩ := h
  obtain ⟨w', hr, h4, h5⟩ := h1.drop K ht hkey ty
  refine ⟨w', hr, ⟨_, h4, fun k => ?_, fun k v hk z => ?_⟩, turned_chg h5⟩
  · by_cases hkk : k = kl
    · subst hkk; rw [Maps.has_del_same, updF_same]; rfl
    · rw [Maps.has_del_other hkk, h2, updF_other f hkk]
  · by_cases hkk : k = kl
    · subst hkk; rw [updF_same] at hk; cases hk
    · rw [Maps.atKey_del_other hkk]; rw [updF_other f hkk] at hk; exact h3 k v hk z
end Go.Proofs.YtfgamkcnnijloaaGreat
namespace Go.Proofs.YtfgamkcnnijloaaGreat
open Go.RowKit Go.Shelf
variable {w w' : World} {t M n : Nat} {T : Tb}

abbrev TTb : TypeId := 94
abbrev TMp : TypeId := 92
theorem keyI : Maps.Keyed Tryz.prog 3 := Maps.int_keyed Tryz.underlying3
def kZ (p : Int) : Lit := .int .i64 p
theorem keyOf_z {p : Int} (h1 : -9223372036854775808 ≤ p) (h2 : p ≤ 9223372036854775807) : keyOf Tryz.prog 3 (.int .i64 p) = some (kZ p) :=
  Maps.keyOf_int_mk Tryz.underlying3 (by have e1 : IntKind.i64.min = -9223372036854775808 := rfl; have e2 : IntKind.i64.max = 9223372036854775807 := rfl; simp [Lit.wf, e1, e2]; omega)
/-- The table as its map's function. -/
def tbF (T : Tb) : Lit → Option Value
  | .int .i64 p => (T p).map psV
  | _ => none
theorem tbF_set (T : Tb) (p : Int) (s : PSt) : ∀ kl, updF (tbF T) (kZ p) (some (psV s)) kl = tbF (T.set p s) kl := by
  intro kl
  by_cases h : kl = kZ p
  · subst h; rw [updF_same]; simp [tbF, kZ, Tb.set]
  · rw [updF_other _ h]
    unfold tbF
    split
    · rename_i q
      have hq : q ≠ p := fun e => h (by rw [e]; rfl)
      simp [Tb.set, hq]
    · rfl
/-- .. without one of them. -/
def Tb.del (T : Tb) (p : Int) : Tb := fun q => if q = p then none else T q
theorem tbF_del (T : Tb) (p : Int) : ∀ kl, updF (tbF T) (kZ p) none kl = tbF (T.del p) kl := by
  intro kl
  by_cases h : kl = kZ p
  · subst h; rw [updF_same]; simp [tbF, kZ, Tb.del]
  · rw [updF_other _ h]
    unfold tbF
    split
    · rename_i q
      have hq : q ≠ p := fun e => h (by rw [e]; rfl)
      simp [Tb.del, hq]
    · rfl
/-- In w the block t is a table; its map lies at M, n bounds its size. -/
structure TPic (w : World) (t M n : Nat) (T : Tb) : Prop where
  box : Blk w t #[.map (some M)] TTb
  map : MapF w 3 M n (tbF T)
  ok : ∀ p s, T p = some s → s.ok
theorem TPic.get_ok (h : TPic w t M n T) (p : Int) : (T.get p).ok := by
  unfold Tb.get
  cases hT : T p with
  | none => exact ps0_ok
  | some s => exact h.ok p s hT
theorem TPic.lt (h : TPic w t M n T) : t < w.heap.size ∧ M < w.heap.size := ⟨h.box.lt, h.map.lt⟩
theorem TPic.ne (h : TPic w t M n T) : t ≠ M := by
  rintro rfl
  obtain ⟨es, c, hm⟩ := h.map.isMap
  have := h.box
  unfold Blk at this
  rw [this] at hm; cases hm
theorem TPic.chg {F : List Nat} (h : TPic w t M n T) (hc : Chg F w w') (ht : t ∉ F) (hM : M ∉ F) : TPic w' t M n T := ⟨h.box.chg hc ht, h.map.keep (hc.block M h.map.lt hM), h.ok⟩
theorem TPic.later (h : TPic w t M n T) (hb : Below w.heap.size w w') : TPic w' t M n T := ⟨h.box.later hb, h.map.keep (hb.block M h.map.lt), h.ok⟩
theorem TPic.made (h : TPic w t M n T) : w.cell? ⟨t, 0, none⟩ = some (.map (some M)) := h.box.cell 0
theorem zeroS (w : World) : (zeroValue TSt).run Tryz.prog w = .ok (.agg (psL ps0).toArray) w := Tryz.zeroValue135 w
theorem TPic.look (h : TPic w t M n T) {p : Int} (h1 : -9223372036854775808 ≤ p) (h2 : p ≤ 9223372036854775807) : (Instr.lookup TMp (.map (some M)) (.int .i64 p) false).run Tryz.prog w = .ok (.agg (psL (T.get p)).toArray) w := by
  rw [h.map.look keyI Tryz.underlying92 (zeroS w) (keyOf_z h1 h2)]
  congr 1
  show ((T p).map psV).getD _ = _
  unfold Tb.get
  cases T p <;> rfl
theorem sizeSt (s : PSt) : (Tryz.prog.info? 135).map (·.size) = some (psL s).length := by
  show _ = some 19
  kernel_rfl
theorem psL_one (s : PSt) : ∀ v ∈ psL s, v.oneCell' = true := by
  intro v hv
  simp only [psL, List.mem_cons, List.not_mem_nil, or_false] at hv
  rcases hv with h | h | h | h | h | h | h | h | h | h | h | h | h | h | h | h | h | h | h
  all_goals (subst h; rfl)
theorem box_cells {B : Nat} {s : PSt} (h : SBox w B s) : ∀ j, j < (psL s).length → w.cell? ⟨B, 0 + j, none⟩ = (psL s)[j]? := fun j _ => by rw [Nat.zero_add, Blk.cell h j, List.getElem?_toArray]
/-- A state is loaded, whatever the region's order. -/
theorem exec_load {a : Act} {o : Oper} {B : Nat} {s : PSt} (x : Operand) (ho : o.op = .load TSt x) (hx : a.eval x = .pointer (some ⟨B, 0, none⟩)) (h : SBox w B s) : (execOp a.eval o).run Tryz.prog w = .ok (.value (.agg (psL s).toArray)) w := by
  unfold execOp
  simp only [ho, hx, Instr.loadAt, Instr.sureAddr, Sem.run_bind, Sem.run_pure, Result.andThen_ok, run_loadVar_cells w TSt _ Tryz.underlying135 rfl (psL s) (sizeSt s) B 0 (box_cells h)]
/-- A state is stored in a box. -/
theorem step_store {ops : Array Oper} {o : Oper} {a : Act} {K : Act → World → Prop} {Q : Exit → Act → World → Prop} {E : Prop} {g : Nat} {cur : Array Value} (s : PSt) (hgd : o.guard = none) (x y : Operand) (ho : o.op = .store TSt x y) (hx : a.eval x = .pointer (some ⟨g, 0, none⟩)) (hy : a.eval y = .agg (psL s).toArray)
    (hg : w.heap[g]? = some (.cells cur TSt (0, 0))) (hfit : cur.size = 19) (h : ∀ w', SBox w' g s → Chg [g] w w' → K (a.put o.dst undef) w') : if Region.wanted o (yielded ops a.tmps) = true then Oper.wp Tryz.prog o a w K Q else E := by
  have hw : Region.wanted o (yielded ops a.tmps) = true := by simp [Region.wanted, hgd]
  rw [if_pos hw]
  unfold Oper.wp execOp
  simp only [ho, hx, hy, Instr.storeAt, Instr.sureAddr, Sem.run_bind, Sem.run_pure, Result.andThen_ok, run_storeVar_cells w TSt (psL s) (sizeSt s) g 0 TSt cur hg (by show 0 + 19 ≤ _; omega) (psL_one s)]
  have e : (cur.toList.take 0 ++ psL s ++ cur.toList.drop (0 + (psL s).length)) = psL s := by rw [List.drop_of_length_le (by show cur.toList.length ≤ 0 + 19; simp; omega)]; simp
  rw [e]
  refine h _ (setRow_heap _ _ _ _ _ _ hg) ⟨rfl, rfl, rfl, by simp [World.setRow], fun k _ hn => setRow_other w g k _ (by intro e; exact hn (by simp [e]))⟩
/-- .. in a region that is walked in its own order. -/
theorem store_box {ops : Array Oper} {rest : List Oper} {o : Oper} {a : Act} {Q : Exit → Act → World → Prop} {g : Nat} {cur : Array Value} (s : PSt) (hgd : o.guard = none) (x y : Operand) (ho : o.op = .store TSt x y) (hx : a.eval x = .pointer (some ⟨g, 0, none⟩)) (hy : a.eval y = .agg (psL s).toArray)
    (hg : w.heap[g]? = some (.cells cur TSt (0, 0))) (hfit : cur.size = 19) (h : ∀ w', SBox w' g s → Chg [g] w w' → wpList Tryz.prog ops Q rest (a.put o.dst undef) w') : wpList Tryz.prog ops Q (o :: rest) a w := by
  refine store_wide hgd TSt x y ho (psL s) (sizeSt s) g 0 hx hy TSt cur hg (by show 0 + 19 ≤ _; omega) (psL_one s) ?_
  have e : (cur.toList.take 0 ++ psL s ++ cur.toList.drop (0 + (psL s).length)) = psL s := by rw [List.drop_of_length_le (by show cur.toList.length ≤ 0 + 19; simp; omega)]; simp
  rw [e]
  refine h _ (setRow_heap _ _ _ _ _ _ hg) ⟨rfl, rfl, rfl, by simp [World.setRow], fun k _ hn => setRow_other w g k _ (by intro e; exact hn (by simp [e]))⟩
end Go.Proofs.YtfgamkcnnijloaaGreat
namespace Go.Proofs.YtfgamkcnnijloaaGreat
open Go.RowKit Go.Maps Go.Sort Go.Shelf
attribute [local go_sem] Oper.semAt_some
variable {w w' : World} {t M n : Nat} {T : Tb}

/-- The producers that are known, in their order. -/
structure KeysT (T : Tb) (ks : List Int) : Prop where
  lt : ks.Pairwise (fun a b => a < b)
  mem : ∀ p, p ∈ ks ↔ (T p).isSome = true
theorem KeysT.uniq {ks ks' : List Int} (h : KeysT T ks) (h' : KeysT T ks') : ks = ks' := by
  refine List.Perm.eq_of_pairwise (le := fun a b => a < b) (fun a b _ _ h1 h2 => by omega) h.lt h'.lt ?_
  refine (List.perm_ext_iff_of_nodup (h.lt.imp (fun hab e => by omega)) (h'.lt.imp (fun hab e => by omega))).2 (fun p => ?_)
  rw [h.mem, h'.mem]
theorem TPic.keys (h : TPic w t M n T) : ∃ (Dm : DataW Value) (ks : List Int), w.ownsMap Tryz.prog 3 RV M n Dm ∧ KeysT T ks ∧ ks.Perm (intKeys Dm) ∧ Maps.size Dm = ks.length ∧ ks.length ≤ n ∧ ∀ p ∈ ks, -9223372036854775808 ≤ p ∧ p ≤ 9223372036854775807 := by
  obtain ⟨Dm, hM, hhas, -⟩ := h.map
  obtain ⟨es, hD, hpw, -⟩ := hM.entries keyI
  obtain ⟨es', hD', hko⟩ := hM.keysOf
  obtain rfl : es = es' := by rw [hD] at hD'; simpa using hD'
  have hwf := intKeys_wf hM Tryz.underlying3
  have hsz : Maps.size Dm ≤ n := hM.size_le
  subst hD
  have hk : ∀ p ∈ es, ∃ x, p.1 = .int .i64 x := fun p hp => by obtain ⟨v, hv⟩ := hko p hp; obtain ⟨x, _, hx, _⟩ := Maps.keyOf_i64 Tryz.underlying3 hv; exact ⟨x, hx⟩
  have hnd : (intKeys (.map es)).Nodup := by
    show (es.map fun p => _root_.Go.intOf p.1).Nodup
    refine List.pairwise_map.2 (hpw.imp_of_mem fun {p q} hp' hq' hne e => hne ?_)
    obtain ⟨a, ha⟩ := hk p hp'
    obtain ⟨b, hb⟩ := hk q hq'
    rw [ha, hb] at e ⊢
    exact congrArg _ e
  have hmem : ∀ x, x ∈ intKeys (.map es) ↔ (T x).isSome = true := by
    intro x
    have hx := hhas (kZ x)
    have hx2 : (tbF T (kZ x)).isSome = (T x).isSome := by simp [tbF, kZ]
    rw [← hx2, ← hx, has_eq, List.any_eq_true]
    show x ∈ (es.map fun p => _root_.Go.intOf p.1) ↔ _
    rw [List.mem_map]
    constructor
    · rintro ⟨p, hp', rfl⟩
      obtain ⟨a, ha⟩ := hk p hp'
      exact ⟨p, hp', by rw [ha]; simp [Lit.sameKey, _root_.Go.intOf, kZ]⟩
    · rintro ⟨p, hp', hs⟩
      obtain ⟨a, ha⟩ := hk p hp'
      rw [ha] at hs
      exact ⟨p, hp', by rw [ha]; simpa [Lit.sameKey, _root_.Go.intOf, kZ] using hs⟩
  have tr : ∀ a b c : Int, leI a b = true → leI b c = true → leI a c = true := fun a b c h1 h2 => by simp only [leI, decide_eq_true_eq] at *; exact Int.le_trans h1 h2
  have to' : ∀ a b : Int, (leI a b || leI b a) = true := fun a b => by simp only [leI, Bool.or_eq_true, decide_eq_true_eq]; exact Int.le_total a b
  have hperm := List.mergeSort_perm (intKeys (.map es)) leI
  refine ⟨.map es, (intKeys (.map es)).mergeSort leI, hM, ⟨?_, fun p => ?_⟩, hperm, ?_, ?_, fun p hp => ?_⟩
  · have h1 := List.pairwise_mergeSort tr to' (intKeys (.map es))
    have h2 : ((intKeys (.map es)).mergeSort leI).Nodup := hperm.nodup_iff.2 hnd
    refine (List.pairwise_and_iff.2 ⟨h1, h2⟩).imp (fun {a b} hab => ?_)
    have := hab.1
    simp only [leI, decide_eq_true_eq] at this
    have hne := hab.2
    omega
  · rw [hperm.mem_iff]; exact hmem p
  · rw [hperm.length_eq]; simp [Maps.size, intKeys]
  · rw [hperm.length_eq]; simpa [Maps.size, intKeys] using hsz
  · have hx := hwf p (hperm.mem_iff.1 hp)
    have h1 : IntKind.i64.min = -9223372036854775808 := rfl
    have h2 : IntKind.i64.max = 9223372036854775807 := rfl
    simp [Lit.wf, h1, h2] at hx
    omega
theorem sortsA (m : Nat) : AnyZI.SortsIn Tryz.prog Tryz.sortedA_ren Fence.wide m :=
  ⟨fun blk off cap ss W hH hblk hsz => callsIn_wide.2 (AnyM.slices_Sort_int Tryz.sortA blk off cap ss W hH hblk hsz),
   fun p cap W => callsIn_wide.2 (AnyM.slices_Sort_int_none Tryz.sortA p cap W)⟩
theorem keys_any (mb : Option Nat) (W : World) : Calls Tryz.prog 125 #[.map mb] W fun e w' => e = .returned (.func (.func 131) #[] #[.pointer (some ⟨W.heap.size, 0, none⟩)]) ∧ w' = W.alloc (.cells #[.map mb] TMp) :=
  (callsIn_wide (n := 5)).1 (AnyZI.keys_in Tryz.keysA Fence.wide 5 trivial rfl mb W)
set_option maxHeartbeats 1000000 in
theorem sorted_any (h : TPic w t M n T) {ks : List Int} (hks : KeysT T ks) (hn : n * 8 ≤ 140737488355328) : Calls Tryz.prog 124 #[.func (.func 131) #[] #[.pointer (some ⟨w.heap.size, 0, none⟩)]] (w.alloc (.cells #[.map (some M)] TMp)) fun e w' => ∃ v, e = .returned v ∧
    w'.ownsRow w.heap.size 3 1 v ks.length (ks.map encZ) ∧ Below w.heap.size w w' := by
  obtain ⟨Dm, ks', hM, hk', hp, hsz, hle, -⟩ := h.keys
  obtain rfl := hks.uniq hk'
  have hM' : (w.alloc (.cells #[.map (some M)] TMp)).ownsMap Tryz.prog 3 RV M n Dm := by
    have hb := ((Below.refl w.heap.size w).alloc (Nat.le_refl _) (.cells #[.map (some M)] TMp)).block M h.map.lt
    obtain ⟨es, c, hh, r⟩ := hM
    exact ⟨es, c, hb.trans hh, r⟩
  have hseq : SeqGives Fence.wide 2 Tryz.prog 131 #[.pointer (some ⟨w.heap.size, 0, none⟩)] encZ (fun ss => ss.Perm (intKeys Dm)) (Maps.size Dm) (w.alloc (.cells #[.map (some M)] TMp)) :=
    AnyZI.keys_gives (ρ := Tryz.keysA_ren) { Tryz.keysA with } Fence.wide _ trivial rfl (by omega) w.heap.size M n Dm _ (by simp) (by simp) hM'
  have cS := AnyZI.sorted_in Tryz.sortedA Fence.wide 5 trivial trivial trivial trivial rfl (by omega) (sortsA _) (enters_of Tryz.func130 (by kernel_rfl) rfl) 131 #[.pointer (some ⟨w.heap.size, 0, none⟩)] trivial (enters_of Tryz.func131 (by kernel_rfl) rfl) _ _ (by rw [hsz]; unfold maxLen; omega) (by rw [hsz]; omega) _ hseq
  refine ((callsIn_wide (n := 5)).1 cS).mono ?_
  rintro e w' ⟨v, ss, rfl, hS, hrow, hnil, hb⟩
  refine ⟨v, rfl, ?_, ?_⟩
  · have hp2 : ss.Perm ks := hS.trans hp.symm
    have hso : ks.mergeSort leI = ks := List.mergeSort_of_pairwise (hks.lt.imp (fun {a b} hab => by simp only [leI, decide_eq_true_eq]; omega))
    rw [show (fun x y : Int => decide (x ≤ y)) = leI from rfl, mergeSort_of_perm_i hp2, hso] at hrow
    have hl : ss.length = ks.length := hp2.length_eq
    rw [hl] at hrow
    exact ownsRow_base_a hrow (by simp)
  · exact ((Below.refl _ w).alloc (Nat.le_refl _) _).trans (hb.mono (by simp))
/-- What the rounds of a loop over rising leave: the blocks Gs, and rows of numbers. -/
def KI (Gs : List Nat) (X Y : World) : Prop := Kg Gs X Y ∧ ∀ (g : Nat) (cur : Array Value), X.heap[g]? = some (Obj.cells cur 3 (0, 0)) → Y.heap[g]? = X.heap[g]?
theorem KI.refl (Gs : List Nat) (X : World) : KI Gs X X := ⟨Kg.refl _ _, fun _ _ _ => rfl⟩
theorem KI.trans {Gs : List Nat} {X Y Z : World} (h : KI Gs X Y) (k : KI Gs Y Z) : KI Gs X Z := ⟨h.1.trans k.1, fun g cur hg => by have h1 := h.2 g cur hg; exact (k.2 g cur (h1.trans hg)).trans h1⟩
theorem KI.below {Gs : List Nat} {X Y : World} (h : Below X.heap.size X Y) (hl : ∀ g ∈ Gs, g < X.heap.size) : KI Gs X Y := ⟨Kg.below h hl, fun g _ hg => h.block g (Array.getElem?_eq_some_iff.1 hg).1⟩
theorem KI.row {Gs : List Nat} {X Y : World} {base m : Nat} {v : Value} {xs : List Value} (h : KI Gs X Y) (hr : X.ownsRow base 3 1 v m xs) : Y.ownsRow base 3 1 v m xs := by
  refine ⟨hr.1, ?_⟩
  rcases hr.2 with h2 | ⟨g, cap, cur, hv, hgb, hg, r⟩
  · exact Or.inl h2
  · exact Or.inr ⟨g, cap, cur, hv, hgb, (h.2 g cur hg).trans hg, r⟩
/-- Round k is handed the k-th producer and its state. -/
def RisR (T : Tb) (ks : List Int) (k : Nat) (args : Array Value) (_ : World) : Prop := k < ks.length ∧ args = #[.int .i64 (ks.getD k 0), .agg (psL (T.get (ks.getD k 0))).toArray]
theorem row_at {W : World} {base m : Nat} {a : Option Addr} {c : Nat} {ks : List Int} (h : W.ownsRow base 3 1 (.slice a m c) m (ks.map encZ)) (hl : ks.length = m) (k : Nat) (hk : k < m) : ∃ g, a = some ⟨g, 0, none⟩ ∧ W.cell? ⟨g, k, none⟩ = some (.int .i64 (ks.getD k 0)) := by
  rcases h.2 with ⟨e, h0⟩ | ⟨g, cap, cur, e, -⟩
  · omega
  · cases e
    refine ⟨g, rfl, ?_⟩
    have e := h.cellAt k (by omega)
    rw [e, List.getElem?_map, List.getD_eq_getElem?_getD, List.getElem?_eq_getElem (by omega)]
    rfl
set_option maxRecDepth 100000 in
set_option maxHeartbeats 1000000 in
theorem rising_seq (h : TPic w t M n T) {ks : List Int} (hks : KeysT T ks) (hn : n * 8 ≤ 140737488355328) (gb : Nat) (K : Nat → World → Prop) (hgb : w.cell? ⟨gb, 0, none⟩ = some (.pointer (some ⟨t, 0, none⟩))) (hgl : gb < w.heap.size) :
    SeqR Tryz.prog 123 #[.pointer (some ⟨gb, 0, none⟩)] (KI [gb, t, M]) K (RisR T ks) ks.length w := by
  intro q J Jx W hW hJ _ _ hY h0
  have hlt : ∀ g ∈ [gb, t, M], g < w.heap.size := fun g hg => by have := h.lt; simp at hg; omega
  have hk0 : KI [gb, t, M] w W := by
    refine ⟨Kg.below hW hlt, fun g _ hg => hW.block g (Array.getElem?_eq_some_iff.1 hg).1⟩
  have hKP : ∀ X, KI [gb, t, M] w X → TPic X t M n T ∧ X.cell? ⟨gb, 0, none⟩ = some (.pointer (some ⟨t, 0, none⟩)) := fun X hX => ⟨⟨(hX.1.2 t (by simp)).trans h.box, h.map.keep (hX.1.2 M (by simp)), h.ok⟩, (hX.1.cell (g := gb) (by simp)).trans hgb⟩
  obtain ⟨Dm, ks', -, hk', -, -, hle, hin⟩ := h.keys
  obtain rfl := hks.uniq hk'
  have HKP := hid hKP
  have HK0 : Hid (KI [gb, t, M] w W) := hk0
  have HJ : Hid (∀ k X Y, J k X → Below X.heap.size X Y → J k Y) := hJ
  have HIn := hid hin
  obtain ⟨m, hm⟩ : ∃ m, ks.length = m := ⟨_, rfl⟩
  rw [hm] at hY hle ⊢
  have HY : Hid (∀ k args X, k < m → J k X → RisR T ks k args X → YieldAt Fence.wide 1 Tryz.prog q args X fun e Y => (e = .returned (.bool true) ∧ J (k + 1) Y ∧ KI [gb, t, M] X Y) ∨ (e = .returned (.bool false) ∧ Jx (k + 1) Y)) := hY
  have HM := hid hm
  obtain ⟨hp0, ct0⟩ := hKP W hk0
  have cm0 := hp0.made
  have hSo := hid (sorted_any hp0 hks hn)
  have hmx : m ≤ 9223372036854775807 := by omega
  have HL := hid hlt
  clear hW hJ hY h hks hk' hk0 hgb hKP hp0 hin hm hlt
  refine callsIn_of_wp Tryz.func123 rfl trivial ?_ rfl
  simp only [Tryz.ntmps123, List.size_toArray, List.length_cons, List.length_nil, Nat.reduceAdd, Nat.reduceSub, Array.replicate_succ, Array.replicate_zero, List.push_toArray, List.append_toArray, List.nil_append, List.cons_append]
  gi_wp2_with (first
    | (refine ⟨trivial, ?_⟩; gi_at_call 125; refine (callsIn_wide.2 (keys_any (some M) _)).mono ?_; rintro e w2 ⟨rfl, hw2⟩; obtain rfl := hw2.symm)
    | (refine ⟨trivial, ?_⟩; gi_at_call 124; (with_reducible_and_instances (refine (callsIn_wide.2 hSo.out).mono ?_)); rintro e W2 ⟨v, rfl, hrow, hb2⟩; obtain ⟨a2, c2, hv2⟩ : ∃ a c, v = .slice a m c := (by rw [HM.out] at hrow; rcases hrow.2 with ⟨e, h0⟩ | ⟨g, cap, cur, e, -⟩; exact ⟨none, 0, by rw [e, h0]⟩; exact ⟨_, _, e⟩); subst hv2; have HRow := hid hrow; have HB2 := hid hb2; clear hrow hb2))
  have HK2 : Hid (KI [gb, t, M] w W2) := HK0.out.trans (KI.below HB2.out (fun g hg => Nat.lt_of_lt_of_le (HL.out g hg) HK0.out.1.1))
  have HJ2 : Hid (J 0 W2) := HJ.out 0 W W2 h0 HB2.out
  have HRow2 : Hid (W2.ownsRow W.heap.size 3 1 (.slice a2 m c2) m (ks.map encZ)) := by have h := HRow.out; rw [HM.out] at h; exact h
  clear HRow HB2 HK0 h0 ct0 cm0 hSo
  gi_loopw [12] (fun i wr => ∃ k : Nat, k ≤ m ∧ i = .int .i64 (k : Int) ∧ Hid (J k wr) ∧ Hid (KI [gb, t, M] w wr) ∧ Hid (wr.ownsRow W.heap.size 3 1 (.slice a2 m c2) m (ks.map encZ))) (fun i _ => m - (_root_.Go.RowKit.intOf i).toNat)
  case atStart => exact ⟨0, Nat.zero_le _, rfl, HJ2, HK2, HRow2⟩
  case round =>
    obtain ⟨k, hk, rfl, HJk, HKk, HRk⟩ := hrel
    clear HJ2 HK2 HRow2
    by_cases hkl : k < m
    · obtain ⟨hp, ct⟩ := HKP.out wr HKk.out
      have cm := hp.made
      obtain ⟨g, rfl, cg⟩ := row_at HRk.out HM.out k hkl
      have hpin := HIn.out (ks.getD k 0) (by rw [List.getD_eq_getElem?_getD, List.getElem?_eq_getElem (by rw [HM.out]; exact hkl)]; exact List.getElem_mem _)
      have hlk := hp.look hpin.1 hpin.2
      obtain ⟨fn, tmps, assign, body, hy, hR⟩ := YieldAt.mono (R' := fun e Y => ∃ b : Bool, e = .returned (.bool b) ∧ Hid ((b = true → J (k + 1) Y ∧ KI [gb, t, M] wr Y) ∧ (b = false → Jx (k + 1) Y))) (HY.out k _ wr hkl HJk.out ⟨by rw [HM.out]; exact hkl, rfl⟩) (by
        rintro e Y (⟨rfl, h1⟩ | ⟨rfl, h1⟩)
        · exact ⟨true, rfl, fun _ => h1, fun h => (by cases h)⟩
        · exact ⟨false, rfl, fun h => (by cases h), fun _ => h1⟩)
      have HRd := hid hR
      clear hR hp HY hpin
      generalize (psL (T.get (ks.getD k 0))).toArray = st at *
      generalize ks.getD k 0 = p at *
      gi_wp2_with (refine HRd.out.mono ?_; rintro e W3 ⟨b, rfl, hb⟩; have HBb := hid hb; clear hb; rcases b with _ | _)
      · have HX := hid (HBb.out.out.2 (by first | rfl | trivial))
        refine bodyPost_ret (results_none rfl _ _ _) rfl ?_
        exact ⟨⟨_, rfl⟩, .inr ⟨k + 1, by omega, HX.out⟩⟩
      · have HJn := hid (HBb.out.out.1 (by first | rfl | trivial)).1
        have HKw := (HBb.out.out.1 (by first | rfl | trivial)).2
        have HKn := hid (HKk.out.trans HKw)
        have HRn := hid (HKw.row HRk.out)
        exact ⟨⟨k + 1, by omega, by go_num, HJn, HKn, HRn⟩, by simp [_root_.Go.RowKit.intOf]; omega⟩
    · obtain rfl : k = m := by omega
      gi_wp2
      go_end0
      exact ⟨⟨_, rfl⟩, .inl HJk.out⟩
theorem enters_rising : ∀ args w, (callFunc 123 args).run Tryz.prog w = .ok (.enter 123 args) w := fun _ _ => by kernel_rfl
theorem rising_any (t : Nat) (w : World) : Calls Tryz.prog 112 #[.pointer (some ⟨t, 0, none⟩)] w fun e w' => e = .returned (.func (.func 123) #[] #[.pointer (some ⟨w.heap.size, 0, none⟩)]) ∧ w' = w.alloc (.cells #[.pointer (some ⟨t, 0, none⟩)] 60) := by
  have hmf : ∀ (fn : Fn) (first cap : Array Value) (w : World), (Instr.makeFunc fn first cap).run Tryz.prog w = .ok (.func fn first cap) w := fun _ _ _ _ => rfl
  go_enter Tryz.func112, Tryz.ntmps112
  go_wp2_with fail
  go_ret
  exact ⟨rfl, rfl⟩
end Go.Proofs.YtfgamkcnnijloaaGreat
namespace Go.Proofs.YtfgamkcnnijloaaGreat
open Go.RowKit Go.Shelf

abbrev TLg : TypeId := 67
def rwV (r : Rw) : List Value := [.int .i64 r.off, .int .i64 r.prod, .bool r.tx, .string r.rc.key, .string r.rc.val, .bool r.rc.dead]
def rw0 : Rw := ⟨0, 0, false, rec0⟩
def txV (t : Tx) : List Value := [.int .i64 t.prod, .int .i64 t.first]
def tx0 : Tx := ⟨0, 0⟩
def gnV (x : Gn) : List Value := [.int .i64 x.prod, .int .i64 x.first, .int .i64 x.last]
def gn0 : Gn := ⟨0, 0, 0⟩
abbrev kRw : Kd Rw := ⟨51, 46, 6, 64, rwV, rw0, .agg #[.int .i64 0, .int .i64 0, .bool false, .string ByteArray.empty, .string ByteArray.empty, .bool false]⟩
abbrev kTx : Kd Tx := ⟨82, 64, 2, 16, txV, tx0, .agg #[.int .i64 0, .int .i64 0]⟩
abbrev kGn : Kd Gn := ⟨75, 65, 3, 24, gnV, gn0, .agg #[.int .i64 0, .int .i64 0, .int .i64 0]⟩
theorem kRw_ok : kRw.ok := by
  refine ⟨⟨fun a => rfl, by decide⟩, ?_, by kernel_rfl, rfl, Tryz.underlying46⟩
  intro a v hv
  simp only [rwV, List.mem_cons, List.not_mem_nil, or_false] at hv
  rcases hv with h | h | h | h | h | h
  all_goals (subst h; rfl)
theorem kTx_ok : kTx.ok := by
  refine ⟨⟨fun a => rfl, by decide⟩, ?_, by kernel_rfl, rfl, Tryz.underlying64⟩
  intro a v hv
  simp only [txV, List.mem_cons, List.not_mem_nil, or_false] at hv
  rcases hv with h | h
  all_goals (subst h; rfl)
theorem kGn_ok : kGn.ok := by
  refine ⟨⟨fun a => rfl, by decide⟩, ?_, by kernel_rfl, rfl, Tryz.underlying65⟩
  intro a v hv
  simp only [gnV, List.mem_cons, List.not_mem_nil, or_false] at hv
  rcases hv with h | h | h
  all_goals (subst h; rfl)
/-- What is so of every ledger. -/
structure LgOk (g : Lg) : Prop where
  start : 0 ≤ g.start ∧ g.start ≤ g.fin
  fin : g.fin ≤ 281474976710656
  rise : g.rows.Pairwise (fun a b => a.off < b.off)
  rows : ∀ r ∈ g.rows, g.start ≤ r.off ∧ r.off < g.fin
  opn : ∀ t ∈ g.opn, g.start ≤ t.first ∧ t.first < g.fin
  oprise : g.opn.Pairwise (fun a b => a.first < b.first)
  gone : ∀ x ∈ g.gone, 0 ≤ x.first ∧ x.first ≤ x.last ∧ x.last < g.fin
/-- In w the block L is a ledger: its table at t, the table's map at M, its slices in blocks from N on. -/
structure LPic0 (w : World) (L t M n N : Nat) (vr vo va : Value) (g : Lg) : Prop where
  box : Blk w L #[.pointer (some ⟨t, 0, none⟩), .int .i64 g.start, .int .i64 g.fin, vr, vo, va] TLg
  tab : TPic w t M n g.tb
  rows : OwnK kRw w N vr g.rows
  opn : OwnK kTx w N vo g.opn
  gone : OwnK kGn w N va g.gone
/-- .. and it is one that can be. -/
structure LPic (w : World) (L t M n N : Nat) (vr vo va : Value) (g : Lg) : Prop extends LPic0 w L t M n N vr vo va g where
  ok : LgOk g
variable {w w' : World} {L t M n N : Nat} {vr vo va : Value} {g : Lg}
theorem LPic0.later (h : LPic0 w L t M n N vr vo va g) (hb : Below w.heap.size w w') : LPic0 w' L t M n N vr vo va g := ⟨h.box.later hb, h.tab.later hb, h.rows.later hb, h.opn.later hb, h.gone.later hb⟩
theorem LPic.later (h : LPic w L t M n N vr vo va g) (hb : Below w.heap.size w w') : LPic w' L t M n N vr vo va g := ⟨h.toLPic0.later hb, h.ok⟩
theorem LPic0.c0 (h : LPic0 w L t M n N vr vo va g) : w.cell? ⟨L, 0, none⟩ = some (.pointer (some ⟨t, 0, none⟩)) := h.box.cell 0
theorem LPic0.c1 (h : LPic0 w L t M n N vr vo va g) : w.cell? ⟨L, 1, none⟩ = some (.int .i64 g.start) := h.box.cell 1
theorem LPic0.c2 (h : LPic0 w L t M n N vr vo va g) : w.cell? ⟨L, 2, none⟩ = some (.int .i64 g.fin) := h.box.cell 2
theorem LPic0.c3 (h : LPic0 w L t M n N vr vo va g) : w.cell? ⟨L, 3, none⟩ = some (vr) := h.box.cell 3
theorem LPic0.c4 (h : LPic0 w L t M n N vr vo va g) : w.cell? ⟨L, 4, none⟩ = some (vo) := h.box.cell 4
theorem LPic0.c5 (h : LPic0 w L t M n N vr vo va g) : w.cell? ⟨L, 5, none⟩ = some (va) := h.box.cell 5
theorem LPic0.lt (h : LPic0 w L t M n N vr vo va g) : L < w.heap.size := h.box.lt
theorem LPic.c0 (h : LPic w L t M n N vr vo va g) : w.cell? ⟨L, 0, none⟩ = some (.pointer (some ⟨t, 0, none⟩)) := h.box.cell 0
theorem LPic.c1 (h : LPic w L t M n N vr vo va g) : w.cell? ⟨L, 1, none⟩ = some (.int .i64 g.start) := h.box.cell 1
theorem LPic.c2 (h : LPic w L t M n N vr vo va g) : w.cell? ⟨L, 2, none⟩ = some (.int .i64 g.fin) := h.box.cell 2
theorem LPic.c3 (h : LPic w L t M n N vr vo va g) : w.cell? ⟨L, 3, none⟩ = some (vr) := h.box.cell 3
theorem LPic.c4 (h : LPic w L t M n N vr vo va g) : w.cell? ⟨L, 4, none⟩ = some (vo) := h.box.cell 4
theorem LPic.c5 (h : LPic w L t M n N vr vo va g) : w.cell? ⟨L, 5, none⟩ = some (va) := h.box.cell 5
theorem LPic.lt (h : LPic w L t M n N vr vo va g) : L < w.heap.size := h.box.lt
/-- The blocks of a ledger are pairwise apart: their types are unlike. -/
theorem blk_type {b : Nat} {cs : Array Value} {T T' : TypeId} {cur : Array Value} (h : Blk w b cs T) (h' : w.heap[b]? = some (.cells cur T' (0, 0))) : T = T' := by
  unfold Blk at h
  rw [h] at h'
  injection h' with h'
  injection h' with _ h'
theorem LPic0.apart (h : LPic0 w L t M n N vr vo va g) : L ≠ t ∧ L ≠ M ∧ t ≠ M ∧ (∀ b, vr.ownBlock = some b → b ≠ L ∧ b ≠ t ∧ b ≠ M) ∧ (∀ b, vo.ownBlock = some b → b ≠ L ∧ b ≠ t ∧ b ≠ M) ∧ (∀ b, va.ownBlock = some b → b ≠ L ∧ b ≠ t ∧ b ≠ M) := by
  obtain ⟨es, c, hm⟩ := h.tab.map.isMap
  have hb := h.box
  have ht := h.tab.box
  have key : ∀ (b : Nat) (T' : TypeId), T' ≠ TLg → T' ≠ TTb → (∃ cur, w.heap[b]? = some (.cells cur T' (0, 0))) → b ≠ L ∧ b ≠ t ∧ b ≠ M := by
    rintro b T' h1 h2 ⟨cur, hc⟩
    refine ⟨?_, ?_, ?_⟩
    · rintro rfl; exact h1 (blk_type hb hc).symm
    · rintro rfl; exact h2 (blk_type ht hc).symm
    · rintro rfl; rw [hm] at hc; cases hc
  refine ⟨?_, ?_, h.tab.ne, fun b e => key b kRw.T (by decide) (by decide) (h.rows.block b e).2.2, fun b e => key b kTx.T (by decide) (by decide) (h.opn.block b e).2.2, fun b e => key b kGn.T (by decide) (by decide) (h.gone.block b e).2.2⟩
  · rintro rfl; exact absurd (blk_type hb ht) (by decide)
  · rintro rfl; unfold Blk at hb; rw [hb] at hm; cases hm
theorem LPic0.apart3 (h : LPic0 w L t M n N vr vo va g) : (∀ b, vr.ownBlock = some b → vo.ownBlock ≠ some b ∧ va.ownBlock ≠ some b) ∧ (∀ b, vo.ownBlock = some b → va.ownBlock ≠ some b) := by
  have key : ∀ (b : Nat) (T' T : TypeId), T' ≠ T → (∃ cur, w.heap[b]? = some (.cells cur T' (0, 0))) → (∃ cur, w.heap[b]? = some (.cells cur T (0, 0))) → False := by
    rintro b T' T h1 ⟨cur, hc⟩ ⟨cur', hc'⟩
    rw [hc] at hc'
    injection hc' with hc'
    injection hc' with _ hc'
    exact h1 hc'
  refine ⟨fun b e => ⟨fun e2 => ?_, fun e2 => ?_⟩, fun b e e2 => ?_⟩
  · exact key b _ _ (by decide) (h.rows.block b e).2.2 (h.opn.block b e2).2.2
  · exact key b _ _ (by decide) (h.rows.block b e).2.2 (h.gone.block b e2).2.2
  · exact key b _ _ (by decide) (h.opn.block b e).2.2 (h.gone.block b e2).2.2
end Go.Proofs.YtfgamkcnnijloaaGreat
namespace Go.Proofs.YtfgamkcnnijloaaGreat
open Go.RowKit Go.Shelf
variable {w w' w1 : World} {L t M n N : Nat} {vr vo va : Value} {g : Lg}

/-- The blocks of a ledger are among F. -/
structure LIn (F : List Nat) (L t M : Nat) (vr vo va : Value) : Prop where
  l : L ∈ F
  t : t ∈ F
  m : M ∈ F
  r : ∀ b, vr.ownBlock = some b → b ∈ F
  o : ∀ b, vo.ownBlock = some b → b ∈ F
  a : ∀ b, va.ownBlock = some b → b ∈ F
theorem LPic0.tabbed (h : LPic0 w L t M n N vr vo va g) {n' : Nat} {T' : Tb} (ht : TPic w' t M n' T') (hc : Chg [M] w w') : LPic0 w' L t M n' N vr vo va { g with tb := T' } := by
  obtain ⟨a1, a2, a3, a4, a5, a6⟩ := h.apart
  refine ⟨h.box.chg hc (by simp; exact a2), ht, h.rows.keep (fun b e => hc.block b (h.rows.block b e).2.1 (by simp; exact (a4 b e).2.2)), h.opn.keep (fun b e => hc.block b (h.opn.block b e).2.1 (by simp; exact (a5 b e).2.2)), h.gone.keep (fun b e => hc.block b (h.gone.block b e).2.1 (by simp; exact (a6 b e).2.2))⟩
theorem LPic0.chg {F : List Nat} (h : LPic0 w L t M n N vr vo va g) (hc : Chg F w w') (hF : ∀ b ∈ F, b ≠ L ∧ b ≠ t ∧ b ≠ M ∧ vr.ownBlock ≠ some b ∧ vo.ownBlock ≠ some b ∧ va.ownBlock ≠ some b) : LPic0 w' L t M n N vr vo va g :=
  ⟨h.box.chg hc (fun hm => (hF _ hm).1 rfl), h.tab.chg hc (fun hm => (hF _ hm).2.1 rfl) (fun hm => (hF _ hm).2.2.1 rfl), h.rows.keep (fun b e => hc.block b (h.rows.block b e).2.1 (fun hm => (hF _ hm).2.2.2.1 e)), h.opn.keep (fun b e => hc.block b (h.opn.block b e).2.1 (fun hm => (hF _ hm).2.2.2.2.1 e)), h.gone.keep (fun b e => hc.block b (h.gone.block b e).2.1 (fun hm => (hF _ hm).2.2.2.2.2 e))⟩
theorem LPic0.fined (h : LPic0 w L t M n N vr vo va g) (f : Int) : LPic0 (w.setCell ⟨L, 2, none⟩ (.int .i64 f)) L t M n N vr vo va { g with fin := f } := by
  obtain ⟨a1, a2, a3, a4, a5, a6⟩ := h.apart
  have hc : Chg [L] w (w.setCell ⟨L, 2, none⟩ (.int .i64 f)) := (Chg.refl _ _).set (Or.inl (by simp)) _ _
  exact ⟨h.box.set 2 _, h.tab.chg hc (by simp; exact fun e => a1 e.symm) (by simp; exact fun e => a2 e.symm), h.rows.keep (fun b e => hc.block b (h.rows.block b e).2.1 (by simp; exact (a4 b e).1)), h.opn.keep (fun b e => hc.block b (h.opn.block b e).2.1 (by simp; exact (a5 b e).1)), h.gone.keep (fun b e => hc.block b (h.gone.block b e).2.1 (by simp; exact (a6 b e).1))⟩
theorem LPic0.rowsed (h : LPic0 w L t M n N vr vo va g) (hgr : w.grownBy w1 vr.ownBlock) {v' : Value} {l' : List Rw} (h1 : OwnK kRw w1 N v' l') :
    LPic0 (w1.setCell ⟨L, 3, none⟩ v') L t M n N v' vo va { g with rows := l' } ∧ w1.cell? ⟨L, 3, none⟩ = some vr ∧ w1.frozen? ⟨L, 3, none⟩ = false := by
  obtain ⟨a1, a2, a3, a4, a5, a6⟩ := h.apart
  obtain ⟨p1, p2⟩ := h.apart3
  have q0 : ∀ b, vo.ownBlock = some b → vr.ownBlock ≠ some b := fun b e2 e => (p1 b e).1 e2
  have q1 : ∀ b, va.ownBlock = some b → vr.ownBlock ≠ some b := fun b e2 e => (p1 b e).2 e2
  have hbox : Blk w1 L #[.pointer (some ⟨t, 0, none⟩), .int .i64 g.start, .int .i64 g.fin, vr, vo, va] TLg := (hgr.block L h.lt (fun e => (a4 L e.symm).1 rfl)).trans h.box
  have hs : ∀ b, b ≠ L → (w1.setCell ⟨L, 3, none⟩ v').heap[b]? = w1.heap[b]? := fun b hb => Below.heap_setCell _ _ _ _ hb
  have htm : ∀ b, b < w.heap.size → b ≠ L → vr.ownBlock ≠ some b → (w1.setCell ⟨L, 3, none⟩ v').heap[b]? = w.heap[b]? := fun b hb hL hv => (hs b hL).trans (hgr.block b hb (fun e => hv e.symm))
  refine ⟨⟨hbox.set 3 _, ⟨(htm t h.tab.lt.1 (fun e => a1 e.symm) (fun e => (a4 t e).2.1 rfl)).trans h.tab.box, h.tab.map.keep (htm M h.tab.lt.2 (fun e => a2 e.symm) (fun e => (a4 M e).2.2 rfl)), h.tab.ok⟩, h1.keep (fun b e => hs b (fun e' => by subst e'; obtain ⟨_, _, cur, hcc⟩ := h1.block b e; exact absurd (blk_type hbox hcc) (by decide))), h.opn.keep (fun b e => (hs b (a5 b e).1).trans (hgr.block b (h.opn.block b e).2.1 (fun e' => q0 b e e'.symm))), h.gone.keep (fun b e => (hs b (a6 b e).1).trans (hgr.block b (h.gone.block b e).2.1 (fun e' => q1 b e e'.symm)))⟩, hbox.cell 3, hbox.free 3⟩
theorem LPic0.opned (h : LPic0 w L t M n N vr vo va g) (hgr : w.grownBy w1 vo.ownBlock) {v' : Value} {l' : List Tx} (h1 : OwnK kTx w1 N v' l') :
    LPic0 (w1.setCell ⟨L, 4, none⟩ v') L t M n N vr v' va { g with opn := l' } ∧ w1.cell? ⟨L, 4, none⟩ = some vo ∧ w1.frozen? ⟨L, 4, none⟩ = false := by
  obtain ⟨a1, a2, a3, a4, a5, a6⟩ := h.apart
  obtain ⟨p1, p2⟩ := h.apart3
  have q0 : ∀ b, vr.ownBlock = some b → vo.ownBlock ≠ some b := fun b e2 e => (p1 b e2).1 e
  have q1 : ∀ b, va.ownBlock = some b → vo.ownBlock ≠ some b := fun b e2 e => p2 b e e2
  have hbox : Blk w1 L #[.pointer (some ⟨t, 0, none⟩), .int .i64 g.start, .int .i64 g.fin, vr, vo, va] TLg := (hgr.block L h.lt (fun e => (a5 L e.symm).1 rfl)).trans h.box
  have hs : ∀ b, b ≠ L → (w1.setCell ⟨L, 4, none⟩ v').heap[b]? = w1.heap[b]? := fun b hb => Below.heap_setCell _ _ _ _ hb
  have htm : ∀ b, b < w.heap.size → b ≠ L → vo.ownBlock ≠ some b → (w1.setCell ⟨L, 4, none⟩ v').heap[b]? = w.heap[b]? := fun b hb hL hv => (hs b hL).trans (hgr.block b hb (fun e => hv e.symm))
  refine ⟨⟨hbox.set 4 _, ⟨(htm t h.tab.lt.1 (fun e => a1 e.symm) (fun e => (a5 t e).2.1 rfl)).trans h.tab.box, h.tab.map.keep (htm M h.tab.lt.2 (fun e => a2 e.symm) (fun e => (a5 M e).2.2 rfl)), h.tab.ok⟩, h.rows.keep (fun b e => (hs b (a4 b e).1).trans (hgr.block b (h.rows.block b e).2.1 (fun e' => q0 b e e'.symm))), h1.keep (fun b e => hs b (fun e' => by subst e'; obtain ⟨_, _, cur, hcc⟩ := h1.block b e; exact absurd (blk_type hbox hcc) (by decide))), h.gone.keep (fun b e => (hs b (a6 b e).1).trans (hgr.block b (h.gone.block b e).2.1 (fun e' => q1 b e e'.symm)))⟩, hbox.cell 4, hbox.free 4⟩
theorem LPic0.goneed (h : LPic0 w L t M n N vr vo va g) (hgr : w.grownBy w1 va.ownBlock) {v' : Value} {l' : List Gn} (h1 : OwnK kGn w1 N v' l') :
    LPic0 (w1.setCell ⟨L, 5, none⟩ v') L t M n N vr vo v' { g with gone := l' } ∧ w1.cell? ⟨L, 5, none⟩ = some va ∧ w1.frozen? ⟨L, 5, none⟩ = false := by
  obtain ⟨a1, a2, a3, a4, a5, a6⟩ := h.apart
  obtain ⟨p1, p2⟩ := h.apart3
  have q0 : ∀ b, vr.ownBlock = some b → va.ownBlock ≠ some b := fun b e2 e => (p1 b e2).2 e
  have q1 : ∀ b, vo.ownBlock = some b → va.ownBlock ≠ some b := fun b e2 e => p2 b e2 e
  have hbox : Blk w1 L #[.pointer (some ⟨t, 0, none⟩), .int .i64 g.start, .int .i64 g.fin, vr, vo, va] TLg := (hgr.block L h.lt (fun e => (a6 L e.symm).1 rfl)).trans h.box
  have hs : ∀ b, b ≠ L → (w1.setCell ⟨L, 5, none⟩ v').heap[b]? = w1.heap[b]? := fun b hb => Below.heap_setCell _ _ _ _ hb
  have htm : ∀ b, b < w.heap.size → b ≠ L → va.ownBlock ≠ some b → (w1.setCell ⟨L, 5, none⟩ v').heap[b]? = w.heap[b]? := fun b hb hL hv => (hs b hL).trans (hgr.block b hb (fun e => hv e.symm))
  refine ⟨⟨hbox.set 5 _, ⟨(htm t h.tab.lt.1 (fun e => a1 e.symm) (fun e => (a6 t e).2.1 rfl)).trans h.tab.box, h.tab.map.keep (htm M h.tab.lt.2 (fun e => a2 e.symm) (fun e => (a6 M e).2.2 rfl)), h.tab.ok⟩, h.rows.keep (fun b e => (hs b (a4 b e).1).trans (hgr.block b (h.rows.block b e).2.1 (fun e' => q0 b e e'.symm))), h.opn.keep (fun b e => (hs b (a5 b e).1).trans (hgr.block b (h.opn.block b e).2.1 (fun e' => q1 b e e'.symm))), h1.keep (fun b e => hs b (fun e' => by subst e'; obtain ⟨_, _, cur, hcc⟩ := h1.block b e; exact absurd (blk_type hbox hcc) (by decide)))⟩, hbox.cell 5, hbox.free 5⟩
end Go.Proofs.YtfgamkcnnijloaaGreat
namespace Go.Proofs.YtfgamkcnnijloaaGreat
open Go.RowKit

/-- Cells laid over others. -/
def over (cur : Array Value) (p : Nat) (news : List Value) : Array Value := (cur.toList.take p ++ news ++ cur.toList.drop (p + news.length)).toArray
theorem over_size (cur : Array Value) (p : Nat) (news : List Value) (h : p + news.length ≤ cur.size) : (over cur p news).size = cur.size := by
  simp [over]; omega
theorem over_get (cur : Array Value) (p : Nat) (news : List Value) (h : p + news.length ≤ cur.size) (j : Nat) :
    (over cur p news)[j]? = if j < p then cur[j]? else if j < p + news.length then news[j - p]? else cur[j]? := by
  have h1 : (cur.toList.take p).length = p := by simp; omega
  unfold over
  rw [List.getElem?_toArray, List.append_assoc]
  by_cases hj : j < p
  · rw [if_pos hj, List.getElem?_append_left (by omega), List.getElem?_take, if_pos hj, Array.getElem?_toList]
  · rw [if_neg hj, List.getElem?_append_right (by omega), h1]
    by_cases hj2 : j < p + news.length
    · rw [if_pos hj2, List.getElem?_append_left (by omega)]
    · rw [if_neg hj2, List.getElem?_append_right (by omega), List.getElem?_drop, Array.getElem?_toList]
      congr 1
      omega
/-- What stands ahead of element i and behind it. -/
def delV (xs : List Value) (size i : Nat) : List Value := xs.take (i * size) ++ xs.drop ((i + 1) * size)
theorem delV_len {xs : List Value} {size n i : Nat} (hl : xs.length = n * size) (hi : i < n) : (delV xs size i).length = (n - 1) * size := by
  have h1 : (i + 1) * size ≤ n * size := Nat.mul_le_mul_right _ (by omega)
  have h2 : (i + 1) * size = i * size + size := by rw [Nat.add_mul]; omega
  have h3 : (n - 1) * size = n * size - size := by rw [Nat.sub_mul]; omega
  unfold delV
  rw [List.length_append, List.length_take, List.length_drop, hl]
  omega
theorem delV_get {xs : List Value} {size n i : Nat} (hl : xs.length = n * size) (hi : i < n) (j : Nat) : (delV xs size i)[j]? = if j < i * size then xs[j]? else xs[j + size]? := by
  have h1 : (i + 1) * size ≤ n * size := Nat.mul_le_mul_right _ (by omega)
  have h2 : (i + 1) * size = i * size + size := by rw [Nat.add_mul]; omega
  unfold delV
  by_cases hj : j < i * size
  · rw [if_pos hj, List.getElem?_append_left (by rw [List.length_take]; omega), List.getElem?_take, if_pos hj]
  · rw [if_neg hj, List.getElem?_append_right (by rw [List.length_take]; omega), List.getElem?_drop, List.length_take]
    congr 1
    omega
/-- The later ones moved, the last one cleared. -/
theorem del_late {cur : Array Value} {o n cap size i : Nat} {xs zc : List Value} (hs : o + cap * size ≤ cur.size) (hn : n ≤ cap) (hx : ∀ j, j < n * size → cur[o + j]? = xs[j]?) (hl : xs.length = n * size) (hi : i < n) (hz : zc.length = size) :
    (over (over cur (o + i * size) (xs.drop ((i + 1) * size))) (o + (n - 1) * size) zc).size = cur.size ∧ ∀ j, j < (n - 1) * size → (over (over cur (o + i * size) (xs.drop ((i + 1) * size))) (o + (n - 1) * size) zc)[o + j]? = (delV xs size i)[j]? := by
  have h1 : (i + 1) * size ≤ n * size := Nat.mul_le_mul_right _ (by omega)
  have h2 : (i + 1) * size = i * size + size := by rw [Nat.add_mul]; omega
  have h3 : (n - 1) * size = n * size - size := by rw [Nat.sub_mul]; omega
  have h4 : n * size ≤ cap * size := Nat.mul_le_mul_right _ hn
  have hd : (xs.drop ((i + 1) * size)).length = n * size - (i + 1) * size := by rw [List.length_drop, hl]
  have e1 : (over cur (o + i * size) (xs.drop ((i + 1) * size))).size = cur.size := over_size _ _ _ (by omega)
  refine ⟨by rw [over_size _ _ _ (by omega), e1], fun j hj => ?_⟩
  rw [over_get _ _ _ (by omega), if_pos (by omega), over_get _ _ _ (by omega), delV_get hl hi]
  by_cases hji : j < i * size
  · rw [if_pos (by omega), if_pos hji, hx j (by omega)]
  · rw [if_neg (by omega), if_pos (by omega), if_neg hji, List.getElem?_drop]
    congr 1
    omega
section
variable {P : Program} {ops : Array Oper} {o : Oper} {a : Act} {w : World} {K : Act → World → Prop} {Q : Exit → Act → World → Prop} {E : Prop}
/-- 'append(s[:i], s[j:]...)' where there is room. -/
theorem step_app_over (hgd : o.guard = none) (x y : Operand) (t : TypeId) (ho : o.op = .call { callee := .builtin .append, args := #[x, y], argTypes := #[t, t] })
    (e : TypeId) (i : TypeInfo) (size : Nat) (ht : P.underlying t = some (.slice e)) (hi : P.info? e = some i) (hsize : i.size = size)
    (g off n cap : Nat) (cur : Array Value) (hg : w.heap[g]? = some (.cells cur e (0, 0))) (hx : a.eval x = .slice (some ⟨g, off, none⟩) n cap) (ad : Addr) (m c : Nat) (news : List Value) (hy : a.eval y = .slice (some ad) m c)
    (hl : news.length = m * size) (hnews : ∀ j u, news[j]? = some u → w.cell? (ad.add j) = some u) (h1 : ∀ u ∈ news, u.oneCell' = true) (hroom : n + m ≤ cap) (hfit : off + n * size + news.length ≤ cur.size)
    (hK : K (a.put o.dst (.slice (some ⟨g, off, none⟩) (n + m) cap)) (w.setRow g (over cur (off + n * size) news))) :
    if Region.wanted o (yielded ops a.tmps) = true then Oper.wp P o a w K Q else E := by
  have hw : Region.wanted o (yielded ops a.tmps) = true := by simp [Region.wanted, hgd]
  rw [if_pos hw]
  subst hsize
  have hfc := run_firstCells_some (P := P) w i.size m ad m c news hl hnews
  have hst := run_storeCells_at P g (off + n * i.size) e news 0 cur w hg (by omega) h1
  simp only [Nat.add_zero] at hst
  have hr : (Builtin.append_ #[t, t] o.type #[.slice (some ⟨g, off, none⟩) n cap, .slice (some ad) m c]).run P w = .ok (.slice (some ⟨g, off, none⟩) (n + m) cap) (w.setRow g (over cur (off + n * i.size) news)) := by
    simp [Builtin.append_, run_underlying ht, sizeOf, typeInfo, hi, Builtin.lenOf, hroom, hfc, Addr.add_lit, hst, over]
  unfold Oper.wp
  simp [execOp, ho, resolve, invoke, builtin, hx, hy, hr, Result.andThen]
  exact hK
end
section
variable {w : World} {e : TypeId}
/-- 'clear' of one element. -/
theorem run_clear_one {P : Program} (t ty : TypeId) (i : TypeInfo) (z : Value) (ht : P.underlying t = some (.slice e)) (hi : P.info? e = some i) (hz : i.zero = some z) (h1 : ∀ u ∈ z.cells.toList, u.oneCell' = true) (g o c : Nat) (cur : Array Value)
    (hg : w.heap[g]? = some (.cells cur e (0, 0))) (hfit : o + z.cells.size ≤ cur.size) :
    (Builtin.clear_ #[t] ty #[.slice (some ⟨g, o, none⟩) 1 c]).run P w = .ok (.tuple #[]) (w.setRow g (cur.toList.take o ++ z.cells.toList ++ cur.toList.drop (o + z.cells.size)).toArray) := by
  have hst := run_storeCells_at P g o e z.cells.toList 0 cur w hg (by simpa using hfit) h1
  simp only [Nat.add_zero, Array.length_toList] at hst
  have hzc : (Builtin.zeroCells z.cells 1).toList = z.cells.toList := by
    apply List.ext_getElem
    · simp [Builtin.zeroCells]
    · intro k k1 k2
      simp [Builtin.zeroCells] at k1 k2 ⊢
      simp [Nat.mod_eq_of_lt k2, getElem!_pos, k2]
  simp [Builtin.clear_, run_underlying ht, zeroValue, typeInfo, hi, hz, hzc, hst]
end
set_option maxRecDepth 100000 in
set_option maxHeartbeats 4000000 in
theorem deleteT_at (w : World) (g o n cap i : Nat) (cur : Array Value) (xs : List Value) (hg : w.heap[g]? = some (.cells cur 82 (0, 0))) (hn : n ≤ cap) (hm : cap ≤ maxLen) (hs : o + cap * 2 ≤ cur.size) (hx : ∀ j, j < n * 2 → cur[o + j]? = xs[j]?) (hl : xs.length = n * 2) (h1 : ∀ u ∈ xs, u.oneCell' = true) (hi : i < n) :
    Calls Tryz.prog 81 #[.slice (some ⟨g, o, none⟩) n cap, .int .i64 (i : Nat), .int .i64 ((i : Nat) + 1)] w fun e w' => e = .returned (.slice (some ⟨g, o, none⟩) (n - 1) cap) ∧ (∃ cur', w'.heap[g]? = some (.cells cur' 82 (0, 0)) ∧ cur'.size = cur.size ∧ ∀ j, j < (n - 1) * 2 → cur'[o + j]? = (delV xs 2 i)[j]?) ∧ w.grownBy w' (some g) := by
  obtain ⟨i0, hi0, hz0, hz1, hz2⟩ := info_parts kTx_ok.info
  have hm2 : cap ≤ 9223372036854775807 := by unfold maxLen at hm; omega
  obtain ⟨news, hnews⟩ : ∃ news, news = xs.drop ((i + 1) * 2) := ⟨_, rfl⟩
  obtain ⟨m, hm0⟩ : ∃ m, n = i + 1 + m := ⟨n - (i + 1), by omega⟩
  subst hm0
  have hlen : news.length = m * 2 := by rw [hnews, List.length_drop, hl]; omega
  obtain ⟨A, hA, hsrc⟩ : ∃ A : Addr, (if cap = i + 1 then some (⟨g, o, none⟩ : Addr) else some ⟨g, o + (i + 1) * 2, none⟩) = some A ∧ Hid (∀ t u, news[t]? = some u → w.drew.cell? (A.add t) = some u) := by
    by_cases h : cap = i + 1
    · refine ⟨⟨g, o, none⟩, by simp [h], fun t u hu => ?_⟩
      have h0 : news.length = 0 := by rw [hlen]; omega
      rw [List.length_eq_zero_iff.1 h0] at hu
      simp at hu
    · refine ⟨⟨g, o + (i + 1) * 2, none⟩, by simp [h], fun t u hu => ?_⟩
      have ht : t < m * 2 := by
        have := (List.getElem?_eq_some_iff.1 hu).1
        rwa [hlen] at this
      rw [hnews, List.getElem?_drop] at hu
      have e1 : w.cell? ⟨g, o + ((i + 1) * 2 + t), none⟩ = some u := by
        rw [cell_of_row _ _ _ _ _ _ hg, hx _ (by omega)]; exact hu
      rw [Addr.add_lit, show o + (i + 1) * 2 + t = o + ((i + 1) * 2 + t) by omega]
      exact e1
  have s2 : Hid (∀ u ∈ news, u.oneCell' = true) := fun u hu => by rw [hnews] at hu; exact h1 u (List.mem_of_mem_drop hu)
  obtain ⟨W1, hW1⟩ : ∃ W1, W1 = w.drew.setRow g (over cur (o + i * 2) news) := ⟨_, rfl⟩
  have hg1 : W1.heap[g]? = some (.cells (over cur (o + i * 2) news) 82 (0, 0)) := by rw [hW1]; exact setRow_heap w.drew g cur _ 82 _ hg
  have hcs : (over cur (o + i * 2) news).size = cur.size := over_size _ _ _ (by omega)
  obtain ⟨W2, hW2⟩ : ∃ W2, W2 = W1.setRow g (over (over cur (o + i * 2) news) (o + (i + m) * 2) [.int .i64 0, .int .i64 0]) := ⟨_, rfl⟩
  have hcl : ∀ ty c, (Builtin.clear_ #[64] ty #[.slice (some ⟨g, o + (i + m) * 2, none⟩) (i + 1 + m - (i + m)) c]).run Tryz.prog W1 = .ok (.tuple #[]) W2 := fun ty c => by
    rw [show i + 1 + m - (i + m) = 1 by omega]
    have := run_clear_one (P := Tryz.prog) (w := W1) 64 ty i0 (.agg #[.int .i64 0, .int .i64 0]) Tryz.underlying64 hi0 hz0 (fun u hu => by simp [Value.cells] at hu; first | (subst hu; rfl) | (rcases hu with rfl | rfl <;> rfl)) g (o + (i + m) * 2) c _ hg1 (by rw [hcs]; simp [Value.cells]; omega)
    rw [this, hW2]
    rfl
  have HW1 : Hid (W1 = w.drew.setRow g (over cur (o + i * 2) news)) := hW1
  have HW2 : Hid (W2 = W1.setRow g (over (over cur (o + i * 2) news) (o + (i + m) * 2) [.int .i64 0, .int .i64 0])) := hW2
  have HG1 := hid hg1
  have HG : Hid (w.heap[g]? = some (.cells cur 82 (0, 0))) := hg
  have HLEN := hid hlen
  have HX := hid hx
  have HL := hid hl
  have HN := hid hnews
  have hic : i ≤ cap := by omega
  have hi1 : (0 : Int) ≤ (i : Int) + 1 := by omega
  have hi2 : (i : Int) + 1 ≤ (i : Int) + 1 + (m : Int) := by omega
  have hjc : i + 1 ≤ cap := by omega
  have hic2 : i + m < cap := by omega
  have hfit : o + i * 2 + m * 2 ≤ cur.size := by omega
  clear hW1 hW2 hg1 hlen hx hl hg hnews h1 hcs
  go_enter Tryz.func81, Tryz.ntmps81
  go_wp2_with fail
  go_region_law (refine step_app_over rfl (.tmp 22) (.tmp 25) 64 rfl 82 i0 2 Tryz.underlying64 hi0 hz1 g o i cap cur HG.out (by simp [Act.eval, Act.put]) A m (cap - (i + 1)) news (by simp [Act.eval, Act.put]) HLEN.out hsrc.out s2.out (by omega) (by rw [HLEN.out]; omega) ?_; rw [← HW1.out])
  go_wp2
  go_ret
  have e1 : i + 1 + m - 1 = i + m := by omega
  rw [e1]
  obtain ⟨d1, d2⟩ := del_late (i := i) (zc := [.int .i64 0, .int .i64 0]) hs hn HX.out HL.out hi rfl
  rw [e1, ← HN.out] at d1 d2
  have hg2 : W2.heap[g]? = some (.cells (over (over cur (o + i * 2) news) (o + (i + m) * 2) [.int .i64 0, .int .i64 0]) 82 (0, 0)) := by rw [HW2.out]; exact setRow_heap W1 g _ _ 82 _ HG1.out
  refine ⟨rfl, ⟨_, hg2, d1, fun j hj => d2 j (by omega)⟩, ?_⟩
  · rw [HW2.out, HW1.out]
    exact ⟨rfl, rfl, rfl, by simp [World.setRow], fun k hk hne => by
      have : k ≠ g := fun e => hne (by rw [e])
      rw [setRow_other _ g k _ this, setRow_other _ g k _ this]; rfl⟩
theorem Vs_take {α : Type} {K : Kd α} (hK : K.fit) (l : List α) (i : Nat) (hi : i ≤ l.length) : (K.Vs l).take (i * K.sz) = K.Vs (l.take i) := by
  have e : K.Vs l = K.Vs (l.take i) ++ K.Vs (l.drop i) := by rw [← Kd.Vs_append, List.take_append_drop]
  have hl : (K.Vs (l.take i)).length = i * K.sz := by rw [hK.Vs_len, List.length_take, Nat.min_eq_left hi]
  rw [e, ← hl, List.take_left]
theorem Vs_drop {α : Type} {K : Kd α} (hK : K.fit) (l : List α) (i : Nat) (hi : i ≤ l.length) : (K.Vs l).drop (i * K.sz) = K.Vs (l.drop i) := by
  have e : K.Vs l = K.Vs (l.take i) ++ K.Vs (l.drop i) := by rw [← Kd.Vs_append, List.take_append_drop]
  have hl : (K.Vs (l.take i)).length = i * K.sz := by rw [hK.Vs_len, List.length_take, Nat.min_eq_left hi]
  rw [e, ← hl, List.drop_left]
theorem delV_Vs (l : List Tx) (i : Nat) (hi : i < l.length) : delV (kTx.Vs l) 2 i = kTx.Vs (l.eraseIdx i) := by
  have h1 := Vs_take kTx_ok.tofit l i (by omega)
  have h2 := Vs_drop kTx_ok.tofit l (i + 1) hi
  unfold delV
  rw [List.eraseIdx_eq_take_drop_succ, Kd.Vs_append, ← h1, ← h2]
theorem delete_any {w : World} {N b m c i : Nat} {l : List Tx} (h : OwnK kTx w N (.slice (some ⟨b, 0, none⟩) m c) l) (hl : l.length = m) (hi : i < m) : Calls Tryz.prog 81 #[.slice (some ⟨b, 0, none⟩) m c, .int .i64 (i : Nat), .int .i64 ((i : Nat) + 1)] w fun e w' => e = .returned (.slice (some ⟨b, 0, none⟩) (m - 1) c) ∧ OwnK kTx w' N (.slice (some ⟨b, 0, none⟩) (m - 1) c) (l.eraseIdx i) ∧ w.grownBy w' (some b) := by
  obtain ⟨h1, h2⟩ := h
  subst hl
  rcases h2 with ⟨e, -⟩ | ⟨b', cap, cur, e, hb, hg, hn, hm, hs, ht⟩
  · cases e
  cases e
  have hsz : kTx.sz = 2 := rfl
  have hT : kTx.T = 82 := rfl
  rw [hsz] at hs ht h1
  have hlen : (l.eraseIdx i).length = l.length - 1 := by rw [List.length_eraseIdx, if_pos hi]
  refine (deleteT_at w b 0 l.length c i cur (kTx.Vs l) hg hn hm (by omega) (fun j hj => ?_) h1 (kTx_ok.Vs_ones l) hi).mono ?_
  · rw [← ht, List.getElem?_take, if_pos hj, Nat.zero_add, Array.getElem?_toList]
  · rintro x w' ⟨rfl, ⟨cur', hc1, hc2, hc3⟩, hg'⟩
    refine ⟨rfl, ⟨?_, Or.inr ⟨b, c, cur', by rw [hlen], hb, hc1, by rw [hlen]; omega, hm, by rw [hc2, hs], ?_⟩⟩, hg'⟩
    · rw [kTx_ok.tofit.Vs_len]
    · rw [hlen, hsz, ← delV_Vs l i hi]
      have hd : (delV (kTx.Vs l) 2 i).length = (l.length - 1) * 2 := delV_len h1 hi
      apply List.ext_getElem?
      intro j
      by_cases hj : j < (l.length - 1) * 2
      · rw [List.getElem?_take, if_pos hj, Array.getElem?_toList, ← hc3 j hj, Nat.zero_add]
      · rw [List.getElem?_take, if_neg hj, List.getElem?_eq_none (by omega)]
end Go.Proofs.YtfgamkcnnijloaaGreat
