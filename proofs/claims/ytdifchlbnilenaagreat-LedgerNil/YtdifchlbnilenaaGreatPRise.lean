/- The producers of a table, in their order: slices.Sorted of maps.Keys, rising. -/
import Derived.Test.YtdifchlbnilenaaGreatSortPlain
import Derived.Test.YtdifchlbnilenaaGreatPTab
import Derived.Lib.SlKeysI
import Derived.Maps.Ext
namespace Go.Proofs.YtdifchlbnilenaaGreat
open Go.RowKit Go.Maps Go.Sort Go.Shelf
attribute [local go_sem] Oper.semAt_some
variable {w w' : World} {t M n : Nat} {T : Tb}

/-- The producers that are known, in their order. -/
structure KeysT (T : Tb) (ks : List Int) : Prop where
  lt : ks.Pairwise (fun a b => a < b)
  mem : ∀ p, p ∈ ks ↔ (T p).isSome = true
theorem KeysT.uniq {ks ks' : List Int} (h : KeysT T ks) (h' : KeysT T ks') : ks = ks' := by
  refine List.Perm.eq_of_pairwise (le := fun a b => a < b) (fun a b _ _ h1 h2 => by omega) h.lt h'.lt ?_
  refine (List.perm_ext_iff_of_nodup (h.lt.imp (fun hab e => by omega)) (h'.lt.imp (fun hab e => by omega))).2 (fun p => ?_)
  rw [h.mem, h'.mem]
theorem TPic.keys (h : TPic w t M n T) : ∃ (Dm : DataW Value) (ks : List Int), w.ownsMap Tryz.prog 3 RV M n Dm ∧ KeysT T ks ∧ ks.Perm (intKeys Dm) ∧ Maps.size Dm = ks.length ∧ ks.length ≤ n ∧ ∀ p ∈ ks, -9223372036854775808 ≤ p ∧ p ≤ 9223372036854775807 := by
  obtain ⟨Dm, hM, hhas, -⟩ := h.map
  obtain ⟨es, hD, hpw, -⟩ := hM.entries keyI
  obtain ⟨es', hD', hko⟩ := hM.keysOf
  obtain rfl : es = es' := by rw [hD] at hD'; simpa using hD'
  have hwf := intKeys_wf hM Tryz.underlying3
  have hsz : Maps.size Dm ≤ n := hM.size_le
  subst hD
  have hk : ∀ p ∈ es, ∃ x, p.1 = .int .i64 x := fun p hp => by obtain ⟨v, hv⟩ := hko p hp; obtain ⟨x, _, hx, _⟩ := Maps.keyOf_i64 Tryz.underlying3 hv; exact ⟨x, hx⟩
  have hnd : (intKeys (.map es)).Nodup := by
    show (es.map fun p => _root_.Go.intOf p.1).Nodup
    refine List.pairwise_map.2 (hpw.imp_of_mem fun {p q} hp' hq' hne e => hne ?_)
    obtain ⟨a, ha⟩ := hk p hp'
    obtain ⟨b, hb⟩ := hk q hq'
    rw [ha, hb] at e ⊢
    exact congrArg _ e
  have hmem : ∀ x, x ∈ intKeys (.map es) ↔ (T x).isSome = true := by
    intro x
    have hx := hhas (kZ x)
    have hx2 : (tbF T (kZ x)).isSome = (T x).isSome := by simp [tbF, kZ]
    rw [← hx2, ← hx, has_eq, List.any_eq_true]
    show x ∈ (es.map fun p => _root_.Go.intOf p.1) ↔ _
    rw [List.mem_map]
    constructor
    · rintro ⟨p, hp', rfl⟩
      obtain ⟨a, ha⟩ := hk p hp'
      exact ⟨p, hp', by rw [ha]; simp [Lit.sameKey, _root_.Go.intOf, kZ]⟩
    · rintro ⟨p, hp', hs⟩
      obtain ⟨a, ha⟩ := hk p hp'
      rw [ha] at hs
      exact ⟨p, hp', by rw [ha]; simpa [Lit.sameKey, _root_.Go.intOf, kZ] using hs⟩
  have tr : ∀ a b c : Int, leI a b = true → leI b c = true → leI a c = true := fun a b c h1 h2 => by simp only [leI, decide_eq_true_eq] at *; exact Int.le_trans h1 h2
  have to' : ∀ a b : Int, (leI a b || leI b a) = true := fun a b => by simp only [leI, Bool.or_eq_true, decide_eq_true_eq]; exact Int.le_total a b
  have hperm := List.mergeSort_perm (intKeys (.map es)) leI
  refine ⟨.map es, (intKeys (.map es)).mergeSort leI, hM, ⟨?_, fun p => ?_⟩, hperm, ?_, ?_, fun p hp => ?_⟩
  · have h1 := List.pairwise_mergeSort tr to' (intKeys (.map es))
    have h2 : ((intKeys (.map es)).mergeSort leI).Nodup := hperm.nodup_iff.2 hnd
    refine (List.pairwise_and_iff.2 ⟨h1, h2⟩).imp (fun {a b} hab => ?_)
    have := hab.1
    simp only [leI, decide_eq_true_eq] at this
    have hne := hab.2
    omega
  · rw [hperm.mem_iff]; exact hmem p
  · rw [hperm.length_eq]; simp [Maps.size, intKeys]
  · rw [hperm.length_eq]; simpa [Maps.size, intKeys] using hsz
  · have hx := hwf p (hperm.mem_iff.1 hp)
    have h1 : IntKind.i64.min = -9223372036854775808 := rfl
    have h2 : IntKind.i64.max = 9223372036854775807 := rfl
    simp [Lit.wf, h1, h2] at hx
    omega
theorem sortsA (m : Nat) : AnyZI.SortsIn Tryz.prog Tryz.sortedA_ren Fence.wide m :=
  ⟨fun blk off cap ss W hH hblk hsz => callsIn_wide.2 (AnyM.slices_Sort_int Tryz.sortA blk off cap ss W hH hblk hsz),
   fun p cap W => callsIn_wide.2 (AnyM.slices_Sort_int_none Tryz.sortA p cap W)⟩
theorem keys_any (mb : Option Nat) (W : World) : Calls Tryz.prog 173 #[.map mb] W fun e w' => e = .returned (.func (.func 179) #[] #[.pointer (some ⟨W.heap.size, 0, none⟩)]) ∧ w' = W.alloc (.cells #[.map mb] TMp) :=
  (callsIn_wide (n := 5)).1 (AnyZI.keys_in Tryz.keysA Fence.wide 5 trivial rfl mb W)
set_option maxHeartbeats 1000000 in
theorem sorted_any (h : TPic w t M n T) {ks : List Int} (hks : KeysT T ks) (hn : n * 8 ≤ 140737488355328) : Calls Tryz.prog 172 #[.func (.func 179) #[] #[.pointer (some ⟨w.heap.size, 0, none⟩)]] (w.alloc (.cells #[.map (some M)] TMp)) fun e w' => ∃ v, e = .returned v ∧
    w'.ownsRow w.heap.size 3 1 v ks.length (ks.map encZ) ∧ Below w.heap.size w w' := by
  obtain ⟨Dm, ks', hM, hk', hp, hsz, hle, -⟩ := h.keys
  obtain rfl := hks.uniq hk'
  have hM' : (w.alloc (.cells #[.map (some M)] TMp)).ownsMap Tryz.prog 3 RV M n Dm := by
    have hb := ((Below.refl w.heap.size w).alloc (Nat.le_refl _) (.cells #[.map (some M)] TMp)).block M h.map.lt
    obtain ⟨es, c, hh, r⟩ := hM
    exact ⟨es, c, hb.trans hh, r⟩
  have hseq : SeqGives Fence.wide 2 Tryz.prog 179 #[.pointer (some ⟨w.heap.size, 0, none⟩)] encZ (fun ss => ss.Perm (intKeys Dm)) (Maps.size Dm) (w.alloc (.cells #[.map (some M)] TMp)) :=
    AnyZI.keys_gives (ρ := Tryz.keysA_ren) { Tryz.keysA with } Fence.wide _ trivial rfl (by omega) w.heap.size M n Dm _ (by simp) (by simp) hM'
  have cS := AnyZI.sorted_in Tryz.sortedA Fence.wide 5 trivial trivial trivial trivial rfl (by omega) (sortsA _) (enters_of Tryz.func178 (by kernel_rfl) rfl) 179 #[.pointer (some ⟨w.heap.size, 0, none⟩)] trivial (enters_of Tryz.func179 (by kernel_rfl) rfl) _ _ (by rw [hsz]; unfold maxLen; omega) (by rw [hsz]; omega) _ hseq
  refine ((callsIn_wide (n := 5)).1 cS).mono ?_
  rintro e w' ⟨v, ss, rfl, hS, hrow, hnil, hb⟩
  refine ⟨v, rfl, ?_, ?_⟩
  · have hp2 : ss.Perm ks := hS.trans hp.symm
    have hso : ks.mergeSort leI = ks := List.mergeSort_of_pairwise (hks.lt.imp (fun {a b} hab => by simp only [leI, decide_eq_true_eq]; omega))
    rw [show (fun x y : Int => decide (x ≤ y)) = leI from rfl, mergeSort_of_perm_i hp2, hso] at hrow
    have hl : ss.length = ks.length := hp2.length_eq
    rw [hl] at hrow
    exact ownsRow_base_a hrow (by simp)
  · exact ((Below.refl _ w).alloc (Nat.le_refl _) _).trans (hb.mono (by simp))
/-- What the rounds of a loop over rising leave: the blocks Gs, and rows of numbers. -/
def KI (Gs : List Nat) (X Y : World) : Prop := Kg Gs X Y ∧ ∀ (g : Nat) (cur : Array Value), X.heap[g]? = some (Obj.cells cur 3 (0, 0)) → Y.heap[g]? = X.heap[g]?
theorem KI.refl (Gs : List Nat) (X : World) : KI Gs X X := ⟨Kg.refl _ _, fun _ _ _ => rfl⟩
theorem KI.trans {Gs : List Nat} {X Y Z : World} (h : KI Gs X Y) (k : KI Gs Y Z) : KI Gs X Z := ⟨h.1.trans k.1, fun g cur hg => by have h1 := h.2 g cur hg; exact (k.2 g cur (h1.trans hg)).trans h1⟩
theorem KI.below {Gs : List Nat} {X Y : World} (h : Below X.heap.size X Y) (hl : ∀ g ∈ Gs, g < X.heap.size) : KI Gs X Y := ⟨Kg.below h hl, fun g _ hg => h.block g (Array.getElem?_eq_some_iff.1 hg).1⟩
theorem KI.row {Gs : List Nat} {X Y : World} {base m : Nat} {v : Value} {xs : List Value} (h : KI Gs X Y) (hr : X.ownsRow base 3 1 v m xs) : Y.ownsRow base 3 1 v m xs := by
  refine ⟨hr.1, ?_⟩
  rcases hr.2 with h2 | ⟨g, cap, cur, hv, hgb, hg, r⟩
  · exact Or.inl h2
  · exact Or.inr ⟨g, cap, cur, hv, hgb, (h.2 g cur hg).trans hg, r⟩
/-- Round k is handed the k-th producer and its state. -/
def RisR (T : Tb) (ks : List Int) (k : Nat) (args : Array Value) (_ : World) : Prop := k < ks.length ∧ args = #[.int .i64 (ks.getD k 0), .agg (psL (T.get (ks.getD k 0))).toArray]
theorem row_at {W : World} {base m : Nat} {a : Option Addr} {c : Nat} {ks : List Int} (h : W.ownsRow base 3 1 (.slice a m c) m (ks.map encZ)) (hl : ks.length = m) (k : Nat) (hk : k < m) : ∃ g, a = some ⟨g, 0, none⟩ ∧ W.cell? ⟨g, k, none⟩ = some (.int .i64 (ks.getD k 0)) := by
  rcases h.2 with ⟨e, h0⟩ | ⟨g, cap, cur, e, -⟩
  · omega
  · cases e
    refine ⟨g, rfl, ?_⟩
    have e := h.cellAt k (by omega)
    rw [e, List.getElem?_map, List.getD_eq_getElem?_getD, List.getElem?_eq_getElem (by omega)]
    rfl
set_option maxRecDepth 100000 in
set_option maxHeartbeats 1000000 in
theorem rising_seq (h : TPic w t M n T) {ks : List Int} (hks : KeysT T ks) (hn : n * 8 ≤ 140737488355328) (gb : Nat) (K : Nat → World → Prop) (hgb : w.cell? ⟨gb, 0, none⟩ = some (.pointer (some ⟨t, 0, none⟩))) (hgl : gb < w.heap.size) :
    SeqR Tryz.prog 171 #[.pointer (some ⟨gb, 0, none⟩)] (KI [gb, t, M]) K (RisR T ks) ks.length w := by
  intro q J Jx W hW hJ _ _ hY h0
  have hlt : ∀ g ∈ [gb, t, M], g < w.heap.size := fun g hg => by have := h.lt; simp at hg; omega
  have hk0 : KI [gb, t, M] w W := by
    refine ⟨Kg.below hW hlt, fun g _ hg => hW.block g (Array.getElem?_eq_some_iff.1 hg).1⟩
  have hKP : ∀ X, KI [gb, t, M] w X → TPic X t M n T ∧ X.cell? ⟨gb, 0, none⟩ = some (.pointer (some ⟨t, 0, none⟩)) := fun X hX => ⟨⟨(hX.1.2 t (by simp)).trans h.box, h.map.keep (hX.1.2 M (by simp)), h.ok⟩, (hX.1.cell (g := gb) (by simp)).trans hgb⟩
  obtain ⟨Dm, ks', -, hk', -, -, hle, hin⟩ := h.keys
  obtain rfl := hks.uniq hk'
  have HKP := hid hKP
  have HK0 : Hid (KI [gb, t, M] w W) := hk0
  have HJ : Hid (∀ k X Y, J k X → Below X.heap.size X Y → J k Y) := hJ
  have HIn := hid hin
  obtain ⟨m, hm⟩ : ∃ m, ks.length = m := ⟨_, rfl⟩
  rw [hm] at hY hle ⊢
  have HY : Hid (∀ k args X, k < m → J k X → RisR T ks k args X → YieldAt Fence.wide 1 Tryz.prog q args X fun e Y => (e = .returned (.bool true) ∧ J (k + 1) Y ∧ KI [gb, t, M] X Y) ∨ (e = .returned (.bool false) ∧ Jx (k + 1) Y)) := hY
  have HM := hid hm
  obtain ⟨hp0, ct0⟩ := hKP W hk0
  have cm0 := hp0.made
  have hSo := hid (sorted_any hp0 hks hn)
  have hmx : m ≤ 9223372036854775807 := by omega
  have HL := hid hlt
  clear hW hJ hY h hks hk' hk0 hgb hKP hp0 hin hm hlt
  refine callsIn_of_wp Tryz.func171 rfl trivial ?_ rfl
  simp only [Tryz.ntmps171, List.size_toArray, List.length_cons, List.length_nil, Nat.reduceAdd, Nat.reduceSub, Array.replicate_succ, Array.replicate_zero, List.push_toArray, List.append_toArray, List.nil_append, List.cons_append]
  gi_wp2_with (first
    | (refine ⟨trivial, ?_⟩; gi_at_call 173; refine (callsIn_wide.2 (keys_any (some M) _)).mono ?_; rintro e w2 ⟨rfl, hw2⟩; obtain rfl := hw2.symm)
    | (refine ⟨trivial, ?_⟩; gi_at_call 172; (with_reducible_and_instances (refine (callsIn_wide.2 hSo.out).mono ?_)); rintro e W2 ⟨v, rfl, hrow, hb2⟩; obtain ⟨a2, c2, hv2⟩ : ∃ a c, v = .slice a m c := (by rw [HM.out] at hrow; rcases hrow.2 with ⟨e, h0⟩ | ⟨g, cap, cur, e, -⟩; exact ⟨none, 0, by rw [e, h0]⟩; exact ⟨_, _, e⟩); subst hv2; have HRow := hid hrow; have HB2 := hid hb2; clear hrow hb2))
  have HK2 : Hid (KI [gb, t, M] w W2) := HK0.out.trans (KI.below HB2.out (fun g hg => Nat.lt_of_lt_of_le (HL.out g hg) HK0.out.1.1))
  have HJ2 : Hid (J 0 W2) := HJ.out 0 W W2 h0 HB2.out
  have HRow2 : Hid (W2.ownsRow W.heap.size 3 1 (.slice a2 m c2) m (ks.map encZ)) := by have h := HRow.out; rw [HM.out] at h; exact h
  clear HRow HB2 HK0 h0 ct0 cm0 hSo
  gi_loopw [12] (fun i wr => ∃ k : Nat, k ≤ m ∧ i = .int .i64 (k : Int) ∧ Hid (J k wr) ∧ Hid (KI [gb, t, M] w wr) ∧ Hid (wr.ownsRow W.heap.size 3 1 (.slice a2 m c2) m (ks.map encZ))) (fun i _ => m - (_root_.Go.RowKit.intOf i).toNat)
  case atStart => exact ⟨0, Nat.zero_le _, rfl, HJ2, HK2, HRow2⟩
  case round =>
    obtain ⟨k, hk, rfl, HJk, HKk, HRk⟩ := hrel
    clear HJ2 HK2 HRow2
    by_cases hkl : k < m
    · obtain ⟨hp, ct⟩ := HKP.out wr HKk.out
      have cm := hp.made
      obtain ⟨g, rfl, cg⟩ := row_at HRk.out HM.out k hkl
      have hpin := HIn.out (ks.getD k 0) (by rw [List.getD_eq_getElem?_getD, List.getElem?_eq_getElem (by rw [HM.out]; exact hkl)]; exact List.getElem_mem _)
      have hlk := hp.look hpin.1 hpin.2
      obtain ⟨fn, tmps, assign, body, hy, hR⟩ := YieldAt.mono (R' := fun e Y => ∃ b : Bool, e = .returned (.bool b) ∧ Hid ((b = true → J (k + 1) Y ∧ KI [gb, t, M] wr Y) ∧ (b = false → Jx (k + 1) Y))) (HY.out k _ wr hkl HJk.out ⟨by rw [HM.out]; exact hkl, rfl⟩) (by
        rintro e Y (⟨rfl, h1⟩ | ⟨rfl, h1⟩)
        · exact ⟨true, rfl, fun _ => h1, fun h => (by cases h)⟩
        · exact ⟨false, rfl, fun h => (by cases h), fun _ => h1⟩)
      have HRd := hid hR
      clear hR hp HY hpin
      generalize (psL (T.get (ks.getD k 0))).toArray = st at *
      generalize ks.getD k 0 = p at *
      gi_wp2_with (refine HRd.out.mono ?_; rintro e W3 ⟨b, rfl, hb⟩; have HBb := hid hb; clear hb; rcases b with _ | _)
      · have HX := hid (HBb.out.out.2 (by first | rfl | trivial))
        refine bodyPost_ret (results_none rfl _ _ _) rfl ?_
        exact ⟨⟨_, rfl⟩, .inr ⟨k + 1, by omega, HX.out⟩⟩
      · have HJn := hid (HBb.out.out.1 (by first | rfl | trivial)).1
        have HKw := (HBb.out.out.1 (by first | rfl | trivial)).2
        have HKn := hid (HKk.out.trans HKw)
        have HRn := hid (HKw.row HRk.out)
        exact ⟨⟨k + 1, by omega, by go_num, HJn, HKn, HRn⟩, by simp [_root_.Go.RowKit.intOf]; omega⟩
    · obtain rfl : k = m := by omega
      gi_wp2
      go_end0
      exact ⟨⟨_, rfl⟩, .inl HJk.out⟩
theorem enters_rising : ∀ args w, (callFunc 171 args).run Tryz.prog w = .ok (.enter 171 args) w := fun _ _ => by kernel_rfl
theorem rising_any (t : Nat) (w : World) : Calls Tryz.prog 165 #[.pointer (some ⟨t, 0, none⟩)] w fun e w' => e = .returned (.func (.func 171) #[] #[.pointer (some ⟨w.heap.size, 0, none⟩)]) ∧ w' = w.alloc (.cells #[.pointer (some ⟨t, 0, none⟩)] 75) := by
  have hmf : ∀ (fn : Fn) (first cap : Array Value) (w : World), (Instr.makeFunc fn first cap).run Tryz.prog w = .ok (.func fn first cap) w := fun _ _ _ _ => rfl
  go_enter Tryz.func165, Tryz.ntmps165
  go_wp2_with fail
  go_ret
  exact ⟨rfl, rfl⟩
end Go.Proofs.YtdifchlbnilenaaGreat
