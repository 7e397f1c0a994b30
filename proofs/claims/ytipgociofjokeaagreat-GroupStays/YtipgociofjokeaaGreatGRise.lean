/- The members' names in their order: slices.Sorted of maps.Keys. -/
import Derived.Test.YtipgociofjokeaaGreatGSmall
import Derived.Test.YtipgociofjokeaaGreatPGXA4
import Derived.Maps.Ext
namespace Go.Proofs.YtipgociofjokeaaGreat
open Go.RowKit Go.Maps Go.Sort Go.Shelf
variable {w w' : World} {g M1 M2 M3 n : Nat} {A : Nm → Sl} {pv : Value} {G : Gp} {F : List Nat}

theorem GP.keys (h : GP w F g M1 M2 M3 n A pv G) {k : Nat} (ho : GOk k G) : ∃ Dm : DataW Value, w.ownsMap Tryz.prog 9 RV M1 n Dm ∧ G.ks.Perm (strKeys Dm) ∧ Maps.size Dm = G.ks.length := by
  obtain ⟨Dm, hM, hhas, -⟩ := h.mem
  obtain ⟨es, hD, hpw, -⟩ := hM.entries keyN
  obtain ⟨es', hD', hko⟩ := hM.keysOf
  obtain rfl : es = es' := by rw [hD] at hD'; simpa using hD'
  subst hD
  have hk : ∀ p ∈ es, ∃ x, p.1 = .string x := fun p hp => by
    obtain ⟨v, hv⟩ := hko p hp
    obtain ⟨x, _, hx, _⟩ := Maps.keyOf_str Tryz.underlying9 hv
    exact ⟨x, hx⟩
  have hp := perm_strKeys hpw hk ho.nodup (fun x => by rw [ho.mem, hhas]; simp [memF])
  exact ⟨_, hM, hp, by rw [hp.length_eq]; simp [Maps.size, strKeys]⟩
theorem GP.len (h : GP w F g M1 M2 M3 n A pv G) {k : Nat} (ho : GOk k G) (ty : TypeId) : (Builtin.len_ #[TMb] ty #[.map (some M1)]).run Tryz.prog w = .ok (.int .i64 (G.ks.length : Int)) w := by
  obtain ⟨Dm, hM, -, hs⟩ := h.keys ho
  rw [hM.len Tryz.underlying37 ty, hs]
theorem sortsN (m : Nat) : AnyZ.SortsIn Tryz.prog Tryz.sortedN_ren Fence.wide m :=
  ⟨fun blk off cap ss W hH hblk hsz => callsIn_wide.2 (AnyM.slices_Sort_string Tryz.sortS blk off cap ss W hH hblk hsz),
   fun p cap W => callsIn_wide.2 (AnyM.slices_Sort_string_none Tryz.sortS p cap W)⟩
theorem keysN_any (mb : Option Nat) (W : World) : Calls Tryz.prog 18 #[.map mb] W fun e w' => e = .returned (.func (.func 34) #[] #[.pointer (some ⟨W.heap.size, 0, none⟩)]) ∧ w' = W.alloc (.cells #[.map mb] TMb) :=
  (callsIn_wide (n := 5)).1 (AnyZ.keys_in Tryz.keysN Fence.wide 5 trivial rfl mb W)
set_option maxHeartbeats 1000000 in
theorem sortedN_any (h : GP w F g M1 M2 M3 n A pv G) {k : Nat} (ho : GOk k G) : Calls Tryz.prog 17 #[.func (.func 34) #[] #[.pointer (some ⟨w.heap.size, 0, none⟩)]] (w.alloc (.cells #[.map (some M1)] TMb)) fun e w' => ∃ v, e = .returned v ∧ OwnK kS w' w.heap.size v G.ks ∧ Below w.heap.size w w' := by
  obtain ⟨Dm, hM, hp, hsz⟩ := h.keys ho
  have hcnt := ho.cnt
  have hM' : (w.alloc (.cells #[.map (some M1)] TMb)).ownsMap Tryz.prog 9 RV M1 n Dm := by
    have hb := ((Below.refl w.heap.size w).alloc (Nat.le_refl _) (.cells #[.map (some M1)] TMb)).block M1 h.mem.lt
    obtain ⟨es, c, hh, r⟩ := hM
    exact ⟨es, c, hb.trans hh, r⟩
  have hseq : SeqGives Fence.wide 2 Tryz.prog 34 #[.pointer (some ⟨w.heap.size, 0, none⟩)] encStr (fun ss => ss.Perm (strKeys Dm)) (Maps.size Dm) (w.alloc (.cells #[.map (some M1)] TMb)) :=
    AnyZ.keys_gives (ρ := Tryz.keysN_ren) { Tryz.keysN with } Fence.wide _ trivial rfl (by omega) w.heap.size M1 n Dm _ (by simp) (by simp) hM'
  have cS := AnyZ.sorted_in Tryz.sortedN Fence.wide 5 trivial trivial trivial trivial rfl (by omega) (sortsN _) (enters_of Tryz.func33 (by kernel_rfl) rfl) 34 #[.pointer (some ⟨w.heap.size, 0, none⟩)] trivial (enters_of Tryz.func34 (by kernel_rfl) rfl) _ _ (by rw [hsz]; unfold maxLen; omega) (by rw [hsz]; omega) _ hseq
  refine ((callsIn_wide (n := 5)).1 cS).mono ?_
  rintro e w' ⟨v, ss, rfl, hS, hrow, hnil, hb⟩
  refine ⟨v, rfl, ?_, ?_⟩
  · have hp2 : ss.Perm G.ks := hS.trans hp.symm
    have hso : G.ks.mergeSort leB = G.ks := List.mergeSort_of_pairwise (ho.sorted.imp (fun {a b} hab => by simpa [leB] using hab))
    rw [show (fun x y : List UInt8 => decide (x ≤ y)) = leB from rfl, mergeSort_of_perm hp2, hso] at hrow
    have hl : ss.length = G.ks.length := hp2.length_eq
    rw [hl] at hrow
    unfold OwnK
    rw [Vs_S]
    exact ownsRow_base_a hrow (by simp)
  · exact ((Below.refl _ w).alloc (Nat.le_refl _) _).trans (hb.mono (by simp))
theorem Members_any (h : GP w F g M1 M2 M3 n A pv G) {k : Nat} (ho : GOk k G) : Calls Tryz.prog 8 #[.pointer (some ⟨g, 0, none⟩)] w fun e w' => ∃ v, e = .returned v ∧ OwnK kS w' w.heap.size v G.ks ∧ Below w.heap.size w w' := by
  have c3 := h.box.cell 3
  simp only [List.getElem?_toArray, List.getElem?_cons_zero, List.getElem?_cons_succ] at c3
  have HM := hid (made_any h)
  have HS := hid (sortedN_any h ho)
  clear h ho
  go_enter Tryz.func8, Tryz.ntmps8
  go_wp2_with (first
    | (go_at_call 16; refine HM.out.mono ?_; rintro e w1 ⟨rfl, hw1⟩; obtain rfl := hw1.symm)
    | (go_at_call 18; refine (keysN_any _ _).mono ?_; rintro e w1 ⟨rfl, hw1⟩; obtain rfl := hw1.symm)
    | (go_at_call 17; (with_reducible_and_instances (refine HS.out.mono ?_)); rintro e w2 ⟨v, rfl, hO, hb⟩; have HO := hid hO; have HB := hid hb; clear hO hb))
  go_ret
  exact ⟨v, rfl, HO.out, HB.out⟩
end Go.Proofs.YtipgociofjokeaaGreat
