/- Loglets of a store that has none. New of package acceptor: one that is up and knows nothing. -/
import Derived.Test.YtmiibakbcogolaaGreatSortPlainB
import Derived.Test.YtmiibakbcogolaaGreatPSync
import Derived.Test.YtmiibakbcogolaaGreatSLooks
import Derived.Test.YtmiibakbcogolaaGreatPAcA
import Derived.Test.YtmiibakbcogolaaGreatPOpen
namespace Go.Proofs.YtmiibakbcogolaaGreat
open Go.RowKit Go.Maps Go.Sort Go.Shelf
variable {w : World} {FD G : List Nat} {S D X Y : Nat} {fx fy : Lit → Option Value} {A : Nat → Nat → Value} {s : SSt}

theorem keysB_any (mb : Option Nat) (W : World) : Calls Tryz.prog 111 #[.map mb] W fun e w' => e = .returned (.func (.func 147) #[] #[.pointer (some ⟨W.heap.size, 0, none⟩)]) ∧ w' = W.alloc (.cells #[.map mb] 172) :=
  (callsIn_wide (n := 5)).1 (AnyZI.keys_in Tryz.keysB Fence.wide 5 trivial rfl mb W)
theorem own_zero {w : World} {base e size : Nat} {v : Value} {xs : List Value} (h : w.ownsRow base e size v 0 xs) : ∃ ad cap, v = .slice ad 0 cap := by
  rcases h.2 with ⟨rfl, _⟩ | ⟨g, cap, cur, rfl, _⟩
  · exact ⟨none, 0, rfl⟩
  · exact ⟨some ⟨g, 0, none⟩, cap, rfl⟩
set_option maxHeartbeats 1000000 in
theorem sortedB_none (M : Nat) (f : Lit → Option Value) (h : MapF w 3 M 0 f) : Calls Tryz.prog 110 #[.func (.func 147) #[] #[.pointer (some ⟨w.heap.size, 0, none⟩)]] (w.alloc (.cells #[.map (some M)] 172)) fun e w' => ∃ ad cap, e = .returned (.slice ad 0 cap) ∧ Below w.heap.size w w' := by
  have hlt := h.lt
  obtain ⟨Dm, hown, -, -⟩ := h
  have hD : Dm = .map [] := by
    obtain ⟨es, clock, _, _, hs, hd⟩ := hown
    have e0 : es = #[] := Array.eq_empty_of_size_eq_zero (by omega)
    rw [hd, e0]; rfl
  subst hD
  have hseq : SeqGives Fence.wide 2 Tryz.prog 147 #[.pointer (some ⟨w.heap.size, 0, none⟩)] encZ (fun ss => ss.Perm (intKeys (DataW.map (H := Value) []))) 0 (w.alloc (.cells #[.map (some M)] 172)) :=
    AnyZI.keys_gives (ρ := Tryz.keysB_ren) { Tryz.keysB with } Fence.wide _ trivial rfl (by omega) w.heap.size M 0 (.map []) _ (by simp) (by simp) (ownsMap_kept hown ((Below.refl w.heap.size w).alloc (Nat.le_refl _) _ |>.block M hlt))
  have cS := AnyZI.sorted_in Tryz.sortedA Fence.wide 5 trivial trivial trivial trivial rfl (by omega) (sortsA _) (enters_of Tryz.func146 (by kernel_rfl) rfl) 147 #[.pointer (some ⟨w.heap.size, 0, none⟩)] trivial (enters_of Tryz.func147 (by kernel_rfl) rfl) _ _ (by unfold maxLen; omega) (by omega) _ hseq
  refine ((callsIn_wide (n := 5)).1 cS).mono ?_
  rintro e w' ⟨v, ss, rfl, hS, hrow, hnil, hb⟩
  have hl : ss.length = 0 := by rw [hS.length_eq]; rfl
  rw [hl] at hrow
  obtain ⟨ad, cap, rfl⟩ := own_zero hrow
  exact ⟨ad, cap, rfl, ((Below.refl _ w).alloc (Nat.le_refl _) _).trans (hb.mono (by simp))⟩
set_option maxRecDepth 100000 in
set_option maxHeartbeats 1000000 in
theorem loglets_none (h : SPic w FD G S D X Y fx fy A s) (hn : s.num = 0) : Calls Tryz.prog 81 #[.pointer (some ⟨S, 0, none⟩)] w fun e w' => ∃ ad cap, e = .returned (.slice ad 0 cap) ∧ Below w.heap.size w w' := by
  obtain ⟨-, -, c2, -⟩ := h.cells
  have hm := smade_pic h
  have hY := h.hY
  rw [hn] at hY
  have hS := sortedB_none Y fy hY
  have hK := keysB_any (some Y) w
  clear h hY hn
  go_enter Tryz.func81, Tryz.ntmps81
  go_wp2_with (first
    | (go_at_call 109; refine hm.mono ?_; rintro e w' ⟨rfl, hw'⟩; obtain rfl := hw'.symm)
    | (go_at_call 111; refine hK.mono ?_; rintro e w' ⟨rfl, hw'⟩; obtain rfl := hw'.symm)
    | (go_at_call 110; refine hS.mono ?_; rintro e w2 ⟨ad, cap, rfl, hb⟩))
  go_ret
  exact ⟨ad, cap, rfl, hb⟩
end Go.Proofs.YtmiibakbcogolaaGreat
namespace Go.Proofs.YtmiibakbcogolaaGreat.Ac
open Go.RowKit Go.Shelf
variable {w w' W : World} {F : List Nat} {B : Nat} {s : SSt}

def kn00 : Nat → Nat → Option Kn := fun _ _ => none
/-- What open leaves of a new disk. -/
def OPost (FD : List Nat) (B : Nat) (s : SSt) (w : World) (x : Ending) (w' : World) : Prop := x = .returned (.int .i64 0) ∧ ∃ F', AUp w' F' B s kn00 ∧ (∀ g ∈ F', g = B ∨ g ∈ FD ∨ w.heap.size ≤ g) ∧ Chg (B :: FD) w w'
/-- The world behind the two stores of open. -/
def opened (w1 : World) (B S : Nat) : World := ((w1.setCell ⟨B, 1, none⟩ (.pointer (some ⟨S, 0, none⟩))).setCell ⟨B, 2, none⟩ (.map (some w1.heap.size))).alloc (.map #[] 0)
theorem opened_ok {FD FD' G : List Nat} {S D X Y : Nat} {fx fy : Lit → Option Value} {A : Nat → Nat → Value} {w1 : World} (hB : Blk w B #[.pointer (some ⟨D, 0, none⟩), .pointer none, .map none] TAc) (hn : B ∉ FD) (hp : SPic w1 FD' G S D X Y fx fy A s) (hs : s.num = 0) (k1 : ∀ g ∈ FD', g ∈ FD ∨ w.heap.size ≤ g) (k2 : ∀ g ∈ G, w.heap.size ≤ g) (hc : Chg FD w w1) :
    SPic (opened w1 B S) FD' G S D X Y fx fy A s ∧ (∃ F', AUp (opened w1 B S) F' B s kn00 ∧ (∀ g ∈ F', g = B ∨ g ∈ FD ∨ w.heap.size ≤ g)) ∧ Chg (B :: FD) w (opened w1 B S) := by
  have hlt := hB.lt
  have hB1 := hB.chg hc hn
  have n1 : B ∉ FD' := fun hm => (k1 B hm).elim hn (by omega)
  have n2 : B ∉ G := fun hm => absurd (k2 B hm) (by omega)
  have lB := hB1.lt
  have hs0 : ((w1.setCell ⟨B, 1, none⟩ (.pointer (some ⟨S, 0, none⟩))).setCell ⟨B, 2, none⟩ (.map (some w1.heap.size))).heap.size = w1.heap.size := by simp [World.setCell]
  have hba : Below w1.heap.size ((w1.setCell ⟨B, 1, none⟩ (.pointer (some ⟨S, 0, none⟩))).setCell ⟨B, 2, none⟩ (.map (some w1.heap.size))) (opened w1 B S) := (Below.refl _ _).alloc (by rw [hs0]; exact Nat.le_refl _) _
  have hsz : (opened w1 B S).heap.size = w1.heap.size + 1 := by simp [opened, World.setCell]
  have hk : ∀ g, g < w1.heap.size → g ≠ B → (opened w1 B S).heap[g]? = w1.heap[g]? := fun g hg hne => by
    rw [hba.block g hg, Below.heap_setCell _ _ _ _ hne, Below.heap_setCell _ _ _ _ hne]
  have hp2 : SPic (opened w1 B S) FD' G S D X Y fx fy A s := hp.keep (fun g hg => by
    have hgl : g < w1.heap.size := hg.elim (hp.disk.lt g) (hp.lt g)
    have hne : g ≠ B := by rintro rfl; exact hg.elim n1 n2
    exact hk g hgl hne) (by rw [hsz]; omega)
  have hbx : Blk (opened w1 B S) B #[.pointer (some ⟨D, 0, none⟩), .pointer (some ⟨S, 0, none⟩), .map (some w1.heap.size)] TAc := blk_below ((hB1.set 1 _).set 2 _) hba lB
  have hM : (opened w1 B S).heap[w1.heap.size]? = some (.map #[] 0) := by
    have := (MapKept.heap_alloc ((w1.setCell ⟨B, 1, none⟩ (.pointer (some ⟨S, 0, none⟩))).setCell ⟨B, 2, none⟩ (.map (some w1.heap.size))) (.map #[] 0)).1
    rw [hs0] at this
    exact this
  refine ⟨hp2, ⟨B :: w1.heap.size :: (G ++ FD'), ⟨S, D, w1.heap.size, FD', G, X, Y, fx, fy, _, A, ⟨hp2, by rw [hs]; exact KnMap.empty hM, hbx, fun hm => (List.mem_append.1 hm).elim n2 n1, fun hm => ?_, fun g hg => by simp [hg], fun g hg => by simp [hg], by simp, by simp, fun g hg => ?_⟩⟩, fun g hg => ?_⟩, ?_⟩
  · rcases List.mem_append.1 hm with hm | hm
    · exact absurd (hp.lt _ hm) (by omega)
    · exact absurd (hp.disk.lt _ hm) (by omega)
  · simp only [List.mem_cons, List.mem_append] at hg
    rw [hsz]
    rcases hg with rfl | rfl | hg | hg
    · omega
    · omega
    · have := hp.lt g hg; omega
    · have := hp.disk.lt g hg; omega
  · simp only [List.mem_cons, List.mem_append] at hg
    rcases hg with rfl | rfl | hg | hg
    · exact Or.inl rfl
    · exact Or.inr (Or.inr hc.size)
    · exact Or.inr (Or.inr (k2 g hg))
    · exact Or.inr (k1 g hg)
  · have h1 : Chg (B :: FD) w w1 := hc.mono (fun k hk => by simp [hk])
    have h2 := (h1.set (Or.inl (by simp : B ∈ B :: FD)) 1 (.pointer (some ⟨S, 0, none⟩))).set (Or.inl (by simp : B ∈ B :: FD)) 2 (.map (some w1.heap.size))
    exact h2.trans (Chg.of (F := []) (by rw [hs0]; exact hba)) (fun k hk => by cases hk)
set_option maxRecDepth 100000 in
set_option maxHeartbeats 2000000 in
theorem open_up {FD : List Nat} {D : Nat} {d : DSt} (hB : Blk w B #[.pointer (some ⟨D, 0, none⟩), .pointer none, .map none] TAc) (hd : Dk w FD D d) (hn : B ∉ FD) (ho : d.off = false) (hz : ∀ x ∈ d.bs, x = b0) :
    Calls Tryz.prog 51 #[.pointer (some ⟨B, 0, none⟩)] w (OPost FD B (sst0 d) w) := by
  have HO := open_new hd ho hz
  have c0 : w.cell? ⟨B, 0, none⟩ = some (.pointer (some ⟨D, 0, none⟩)) := hB.cell 0
  have HC : Hid (∀ w', Chg FD w w' → w'.cell? ⟨B, 1, none⟩ = some (.pointer none) ∧ w'.frozen? ⟨B, 1, none⟩ = false ∧ w'.cell? ⟨B, 2, none⟩ = some (.map none) ∧ w'.frozen? ⟨B, 2, none⟩ = false ∧ B < w'.heap.size) := hid (fun w' hc => ⟨(hB.chg hc hn).cell 1, (hB.chg hc hn).free 1, (hB.chg hc hn).cell 2, (hB.chg hc hn).free 2, (hB.chg hc hn).lt⟩)
  have HB : Hid (Blk w B #[.pointer (some ⟨D, 0, none⟩), .pointer none, .map none] TAc) := hB
  have hmm : ∀ (t : TypeId) (w : World), (Instr.makeMap t none).run Tryz.prog w = .ok (.map (some w.heap.size)) (w.alloc (.map #[] 0)) := fun t w => run_makeMap _ w
  clear hd ho hz hB
  go_enter Tryz.func51, Tryz.ntmps51
  go_wp2_with (first
    | (go_at_call 80; refine HO.mono ?_; rintro x w1 ⟨S, rfl, FD', G, X, Y, fx, fy, A, hp, k1, k2, hc⟩; obtain ⟨c1, f1, c2, f2, hBl⟩ := HC.out _ hc; have HP : Hid (SPic (opened w1 B S) FD' G S D X Y fx fy A (sst0 d) ∧ (∃ F', AUp (opened w1 B S) F' B (sst0 d) kn00 ∧ (∀ g ∈ F', g = B ∨ g ∈ FD ∨ w.heap.size ≤ g)) ∧ Chg (B :: FD) w (opened w1 B S)) := hid (opened_ok HB.out hn hp rfl k1 k2 hc); have HL := loglets_none HP.out.1 rfl; unfold opened at HL; clear hp k1 k2 hc HO HC)
    | (go_at_call 81; (with_reducible_and_instances (refine HL.mono ?_)); rintro x w3 ⟨ad, cap, rfl, b3⟩; have HQ : Hid (∃ F', AUp w3 F' B (sst0 d) kn00 ∧ (∀ g ∈ F', g = B ∨ g ∈ FD ∨ w.heap.size ≤ g) ∧ Chg (B :: FD) w w3) := hid (by
        obtain ⟨-, ⟨F', hu, hF⟩, hch⟩ := HP.out
        exact ⟨F', hu.later b3, hF, hch.trans (Chg.of (F := []) b3) (fun k hk => by cases hk)⟩); clear b3 HL HP))
  refine wp_loop_rounds 1 ?_
  rw [rounds_succ]
  go_wp2
  go_ret
  obtain ⟨F', h1, h2, h3⟩ := HQ.out
  exact ⟨rfl, F', h1, h2, h3⟩
/-- What New answers. -/
def NewPost (s : SSt) (w : World) (x : Ending) (w' : World) : Prop := ∃ F B, x = .returned (.tuple #[.pointer (some ⟨B, 0, none⟩), .int .i64 0]) ∧ AUp w' F B s kn00 ∧ (∀ g ∈ F, w.heap.size ≤ g) ∧ Below w.heap.size w w'
set_option maxRecDepth 100000 in
set_option maxHeartbeats 1000000 in
theorem new_up (n : Int) (w : World) (h1 : 1 ≤ n) (h2 : n ≤ 4096) : Calls Tryz.prog 24 #[.int .i64 n] w (NewPost (sst0 (newD n.toNat)) w) := by
  have HN := new_ok n w h1 h2
  have HO : Hid (∀ (w1 : World) (F : List Nat) (D : Nat), Dk w1 F D (newD n.toNat) → (∀ g ∈ F, w.heap.size ≤ g) → Below w.heap.size w w1 → Calls Tryz.prog 51 #[.pointer (some ⟨w1.heap.size, 0, none⟩)] (w1.alloc (.cells #[.pointer (some ⟨D, 0, none⟩), .pointer none, .map none] TAc)) fun x w' => x = .returned (.int .i64 0) ∧ Hid (NewPost (sst0 (newD n.toNat)) w (.returned (.tuple #[.pointer (some ⟨w1.heap.size, 0, none⟩), .int .i64 0])) w')) := hid (fun w1 F D hd hF hb => by
    obtain ⟨f1, f2, f3⟩ := new_free n.toNat
    have hb1 : Below w1.heap.size w1 (w1.alloc (.cells #[.pointer (some ⟨D, 0, none⟩), .pointer none, .map none] TAc)) := (Below.refl _ _).alloc (Nat.le_refl _) _
    refine (open_up (heap_alloc_last w1 _) (hd.keep (fun g hg => hb1.block g (hd.lt g hg)) hb1.size) (fun hm => absurd (hd.lt _ hm) (by omega)) f1.on f3).mono ?_
    rintro x w' ⟨rfl, F', hu, hF', hc⟩
    have hs1 : w1.heap.size ≤ (w1.alloc (.cells #[.pointer (some ⟨D, 0, none⟩), .pointer none, .map none] TAc)).heap.size := hb1.size
    refine ⟨rfl, hid ⟨F', w1.heap.size, rfl, hu, fun g hg => ?_, ?_⟩⟩
    · rcases hF' g hg with rfl | h | h
      · exact hb.size
      · exact hF g h
      · exact Nat.le_trans hb.size (Nat.le_trans hs1 h)
    · refine (hb.trans (hb1.mono hb.size)).trans (hc.below (fun g hg => ?_) (Nat.le_trans hb.size hs1))
      simp only [List.mem_cons] at hg
      rcases hg with rfl | hg
      · exact hb.size
      · exact hF g hg)
  go_enter Tryz.func24, Tryz.ntmps24
  go_wp2_with (first
    | (go_at_call 50; refine HN.mono ?_; rintro x w1 ⟨F, D, rfl, hd, hF, hb⟩; have HO1 := HO.out w1 F D hd hF hb; clear hd hF hb HN HO)
    | (go_at_call 51; refine HO1.mono ?_; rintro x w2 ⟨rfl, HP⟩; clear HO1))
  go_ret2
  exact HP.out
end Go.Proofs.YtmiibakbcogolaaGreat.Ac
