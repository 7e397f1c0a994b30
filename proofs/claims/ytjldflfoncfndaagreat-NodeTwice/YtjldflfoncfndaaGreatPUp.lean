/- A node that is up, in memory: its struct, its store, its disk; the small calls of package node. New of package node. -/
import Derived.Test.YtjldflfoncfndaaGreatPOpen
import Derived.Test.YtjldflfoncfndaaGreatSGet
import Derived.Test.YtjldflfoncfndaaGreatPPut
import Derived.Test.YtjldflfoncfndaaGreatPNode
namespace Go.Proofs.YtjldflfoncfndaaGreat
open Go.RowKit Go.Shelf
variable {w w' W : World} {F : List Nat} {B : Nat} {s : SSt}

/-- A node at B that is up: its store is s, its blocks are all in F. -/
def NUp (w : World) (F : List Nat) (B : Nat) (s : SSt) : Prop :=
  ∃ FD G S D X Y fx fy A, SPic w FD G S D X Y fx fy A s ∧ Blk w B #[.pointer (some ⟨D, 0, none⟩), .pointer (some ⟨S, 0, none⟩)] 72 ∧ B ∉ FD ∧ B ∉ G ∧ (∀ g ∈ FD, g ∈ F) ∧ (∀ g ∈ G, g ∈ F) ∧ B ∈ F ∧ ∀ g ∈ F, g < w.heap.size
/-- What a call on a node that stays up leaves. -/
def NMoved (F : List Nat) (B : Nat) (s : SSt) (w w' : World) : Prop := (∃ F', NUp w' F' B s ∧ ∀ g ∈ F', g ∈ F ∨ w.heap.size ≤ g) ∧ Chg F w w' ∧ w'.cell? ⟨B, 1, none⟩ = w.cell? ⟨B, 1, none⟩
theorem NUp.later (h : NUp w F B s) (hb : Below w.heap.size w w') : NUp w' F B s := by
  obtain ⟨FD, G, S, D, X, Y, fx, fy, A, h1, h2, h3⟩ := h
  exact ⟨FD, G, S, D, X, Y, fx, fy, A, h1.below hb, h2.later hb, h3.1, h3.2.1, h3.2.2.1, h3.2.2.2.1, h3.2.2.2.2.1, fun g hg => Nat.lt_of_lt_of_le (h3.2.2.2.2.2 g hg) hb.size⟩
theorem NUp.ltB (h : NUp w F B s) : B < w.heap.size := by obtain ⟨_, _, _, _, _, _, _, _, _, _, k2, _⟩ := h; exact k2.lt
theorem NUp.moved (h : NUp w F B s) (hb : Below w.heap.size w w') : NMoved F B s w w' := ⟨⟨F, h.later hb, fun _ hg => Or.inl hg⟩, Chg.of hb, hb.cell (p := ⟨B, 1, none⟩) h.ltB⟩
theorem NMoved.pre (hb : Below w.heap.size w W) (hB : B < w.heap.size) (h : NMoved F B s W w') : NMoved F B s w w' := by
  obtain ⟨⟨F', h1, h2⟩, h3, h4⟩ := h
  exact ⟨⟨F', h1, fun g hg => (h2 g hg).imp id (fun h => Nat.le_trans hb.size h)⟩, (Chg.of hb).trans h3 (fun k hk => Or.inl hk), h4.trans (hb.cell (p := ⟨B, 1, none⟩) hB)⟩
theorem NMoved.post (h : NMoved F B s w W) (hb : Below W.heap.size W w') : NMoved F B s w w' := by
  obtain ⟨⟨F', h1, h2⟩, h3, h4⟩ := h
  exact ⟨⟨F', h1.later hb, h2⟩, h3.trans (Chg.of (F := []) hb) (fun k hk => by cases hk), (hb.cell (p := ⟨B, 1, none⟩) h1.ltB).trans h4⟩
/-- A call on the store of a node. -/
theorem SPost.node {FD G : List Nat} {S D X Y : Nat} {r : Int × SSt} {x : Ending} (h : SPost w FD G S D X Y r x w') (hB : Blk w B #[.pointer (some ⟨D, 0, none⟩), .pointer (some ⟨S, 0, none⟩)] 72) (n1 : B ∉ FD) (n2 : B ∉ G) (s1 : ∀ g ∈ FD, g ∈ F) (s2 : ∀ g ∈ G, g ∈ F) (mB : B ∈ F) (lt : ∀ g ∈ F, g < w.heap.size) : x = .returned (.int .i64 r.1) ∧ NMoved F B r.2 w w' := by
  obtain ⟨rfl, FD', G', fx', fy', A', hp, k1, k2, hc⟩ := h
  have hn : B ∉ G ++ FD := fun hm => (List.mem_append.1 hm).elim n2 n1
  refine ⟨rfl, ⟨B :: (FD' ++ G'), ⟨FD', G', S, D, X, Y, fx', fy', A', hp, hB.chg hc hn, ?_, ?_, fun g hg => by simp [hg], fun g hg => by simp [hg], by simp, ?_⟩, ?_⟩, hc.mono (fun k hk => (List.mem_append.1 hk).elim (s2 k) (s1 k)), hc.cell hB.lt hn⟩
  · exact fun hm => (k1 B hm).elim n1 (fun h => absurd (lt B mB) (by omega))
  · exact fun hm => (k2 B hm).elim n2 (fun h => absurd (lt B mB) (by omega))
  · intro g hg
    simp only [List.mem_cons, List.mem_append] at hg
    rcases hg with rfl | hg | hg
    · exact Nat.lt_of_lt_of_le (lt _ mB) hc.size
    · exact hp.disk.lt g hg
    · exact hp.lt g hg
  · intro g hg
    simp only [List.mem_cons, List.mem_append] at hg
    rcases hg with rfl | hg | hg
    · exact Or.inl mB
    · exact (k1 g hg).imp (s1 g) id
    · exact (k2 g hg).imp (s2 g) id
set_option maxRecDepth 100000 in
theorem nmade_up (h : NUp w F B s) : Calls Tryz.prog 56 #[.pointer (some ⟨B, 0, none⟩)] w fun e w' => e = .returned (.bool true) ∧ w' = w := by
  obtain ⟨FD, G, S, D, X, Y, fx, fy, A, h1, h2, h3⟩ := h
  have c0 : w.cell? ⟨B, 0, none⟩ = some (.pointer (some ⟨D, 0, none⟩)) := h2.cell 0
  clear h1 h2 h3
  go_enter Tryz.func56, Tryz.ntmps56
  go_wp2
  go_ret
  exact ⟨rfl, rfl⟩
set_option maxRecDepth 100000 in
theorem nup_up (h : NUp w F B s) : Calls Tryz.prog 31 #[.pointer (some ⟨B, 0, none⟩)] w fun e w' => e = .returned (.bool true) ∧ w' = w := by
  have hm := nmade_up h
  obtain ⟨FD, G, S, D, X, Y, fx, fy, A, h1, h2, h3⟩ := h
  have c1 : w.cell? ⟨B, 1, none⟩ = some (.pointer (some ⟨S, 0, none⟩)) := h2.cell 1
  clear h1 h2 h3
  go_enter Tryz.func31, Tryz.ntmps31
  go_wp2_with (go_at_call 56; refine hm.mono ?_; rintro e w' ⟨rfl, hw'⟩; obtain rfl := hw'.symm)
  go_ret
  exact ⟨rfl, rfl⟩
theorem new_lt {o : Obj} {p : Nat} (h : p < w.heap.size) : p ≠ w.heap.size ∧ p < (w.alloc o).heap.size := ⟨by omega, by simp; omega⟩
/-- What a doer of a node answers. -/
def DPost (F : List Nat) (B : Nat) (s : SSt) (l : List Nat) (z : Int) (w : World) (x : Ending) (w' : World) : Prop := ∃ q : Part, x = .returned (.tuple #[.slice q.ad q.len q.cap, .int .i64 z]) ∧ q.l = l ∧ q.ok w' ∧ NMoved F B s w w'
set_option maxRecDepth 100000 in
set_option maxHeartbeats 4000000 in
theorem write_up (h : NUp w F B s) (k l p : Int) (hl1 : -9223372036854775808 ≤ l) (hl2 : l ≤ 9223372036854775807) (ad : Option Addr) (len cap : Nat) (data : List Nat) (hda : Part.ok w ⟨ad, len, cap, data⟩) (hlen : len ≤ 1000000000000) (hfew : ∀ x ∈ s.d.bs, x.vs.length ≤ 1000000) :
    Calls Tryz.prog 85 #[.pointer (some ⟨B, 0, none⟩), reqV k l p ad len cap] w (DPost F B (s.put l p data false).2 [] (s.put l p data false).1 w) := by
  obtain ⟨FD, G, S, D, X, Y, fx, fy, A, h1, h2, n1, n2, s1, s2, mB, lt⟩ := h
  obtain ⟨W0, hW0⟩ : ∃ W0, w.alloc (.cells #[.int .i64 k, .int .i64 l, .int .i64 p, .slice ad len cap] 27) = W0 := ⟨_, rfl⟩
  have b0 : Below w.heap.size w W0.drew := by rw [← hW0]; exact ((Below.refl _ w).alloc (Nat.le_refl _) _).drew
  have X0 : Blk W0.drew w.heap.size #[.int .i64 k, .int .i64 l, .int .i64 p, .slice ad len cap] 27 := by
    rw [← hW0]
    exact heap_alloc_last w _
  have hB := h2.later b0
  have HC := put_pic (h1.below b0) l p hl1 hl2 ad len cap data (hda.later b0) hlen false hfew
  have hn : B ∉ G ++ FD := fun hm => (List.mem_append.1 hm).elim n2 n1
  have hm : w.heap.size ∉ G ++ FD := fun hm => by
    have := lt _ ((List.mem_append.1 hm).elim (s2 _) (s1 _))
    omega
  have HQ : Hid (∀ x w2, SPost W0.drew FD G S D X Y (s.put l p data false) x w2 → x = .returned (.int .i64 (s.put l p data false).1) ∧ Hid (NMoved F B (s.put l p data false).2 w w2) ∧ Hid (w2.cell? ⟨B, 1, none⟩ = some (.pointer (some ⟨S, 0, none⟩)) ∧ w2.cell? ⟨w.heap.size, 1, none⟩ = some (.int .i64 l) ∧ w2.cell? ⟨w.heap.size, 2, none⟩ = some (.int .i64 p) ∧ w2.cell? ⟨w.heap.size, 3, none⟩ = some (.slice ad len cap))) := (show Hid _ from fun x w2 hx => by
    obtain ⟨e, m⟩ := hx.node hB n1 n2 s1 s2 mB (fun g hg => Nat.lt_of_lt_of_le (lt g hg) b0.size)
    obtain ⟨-, _, _, _, _, _, _, _, _, hc⟩ := hx
    exact ⟨e, (show Hid _ from m.pre b0 h2.lt), (show Hid _ from ⟨(hB.chg hc hn).cell 1, (X0.chg hc hm).cell 1, (X0.chg hc hm).cell 2, (X0.chg hc hm).cell 3⟩)⟩)
  have HS : Hid (W0.drew.cell? ⟨B, 1, none⟩ = some (.pointer (some ⟨S, 0, none⟩)) ∧ W0.drew.cell? ⟨w.heap.size, 1, none⟩ = some (.int .i64 l) ∧ W0.drew.cell? ⟨w.heap.size, 2, none⟩ = some (.int .i64 p) ∧ W0.drew.cell? ⟨w.heap.size, 3, none⟩ = some (.slice ad len cap)) := (show Hid _ from ⟨hB.cell 1, X0.cell 1, X0.cell 2, X0.cell 3⟩)
  generalize s.put l p data false = r at *
  clear h1 h2 n1 n2 s1 s2 mB lt hda hfew X0 hB b0 hn hm
  unfold reqV
  go_enter Tryz.func85, Tryz.ntmps85
  go_wp2_with fail
  go_region_held3 (fun W => W.cell? ⟨B, 1, none⟩ = some (.pointer (some ⟨S, 0, none⟩)) ∧ W.cell? ⟨w.heap.size, 1, none⟩ = some (.int .i64 l) ∧ W.cell? ⟨w.heap.size, 2, none⟩ = some (.int .i64 p) ∧ W.cell? ⟨w.heap.size, 3, none⟩ = some (.slice ad len cap))
    (first | exact HS.out | exact S2.out)
    ((go_at_call 111; refine HC.mono ?_; intro x w2 hx; obtain ⟨rfl, M, S2⟩ := HQ.out _ _ hx; clear hx))
  go_wp2
  go_ret2
  exact ⟨⟨none, 0, 0, []⟩, rfl, rfl, ⟨rfl, fun _ => ⟨rfl, rfl⟩, fun _ h => (by cases h), Or.inl rfl⟩, M.out⟩
set_option maxRecDepth 100000 in
set_option maxHeartbeats 4000000 in
theorem repair_up (h : NUp w F B s) (k l p : Int) (hl1 : -9223372036854775808 ≤ l) (hl2 : l ≤ 9223372036854775807) (ad : Option Addr) (len cap : Nat) (data : List Nat) (hda : Part.ok w ⟨ad, len, cap, data⟩) (hlen : len ≤ 1000000000000) (hfew : ∀ x ∈ s.d.bs, x.vs.length ≤ 1000000) :
    Calls Tryz.prog 86 #[.pointer (some ⟨B, 0, none⟩), reqV k l p ad len cap] w (DPost F B (s.put l p data true).2 [] (s.put l p data true).1 w) := by
  obtain ⟨FD, G, S, D, X, Y, fx, fy, A, h1, h2, n1, n2, s1, s2, mB, lt⟩ := h
  obtain ⟨W0, hW0⟩ : ∃ W0, w.alloc (.cells #[.int .i64 k, .int .i64 l, .int .i64 p, .slice ad len cap] 27) = W0 := ⟨_, rfl⟩
  have b0 : Below w.heap.size w W0.drew := by rw [← hW0]; exact ((Below.refl _ w).alloc (Nat.le_refl _) _).drew
  have X0 : Blk W0.drew w.heap.size #[.int .i64 k, .int .i64 l, .int .i64 p, .slice ad len cap] 27 := by
    rw [← hW0]
    exact heap_alloc_last w _
  have hB := h2.later b0
  have HC := put_pic (h1.below b0) l p hl1 hl2 ad len cap data (hda.later b0) hlen true hfew
  have hn : B ∉ G ++ FD := fun hm => (List.mem_append.1 hm).elim n2 n1
  have hm : w.heap.size ∉ G ++ FD := fun hm => by
    have := lt _ ((List.mem_append.1 hm).elim (s2 _) (s1 _))
    omega
  have HQ : Hid (∀ x w2, SPost W0.drew FD G S D X Y (s.put l p data true) x w2 → x = .returned (.int .i64 (s.put l p data true).1) ∧ Hid (NMoved F B (s.put l p data true).2 w w2) ∧ Hid (w2.cell? ⟨B, 1, none⟩ = some (.pointer (some ⟨S, 0, none⟩)) ∧ w2.cell? ⟨w.heap.size, 1, none⟩ = some (.int .i64 l) ∧ w2.cell? ⟨w.heap.size, 2, none⟩ = some (.int .i64 p) ∧ w2.cell? ⟨w.heap.size, 3, none⟩ = some (.slice ad len cap))) := (show Hid _ from fun x w2 hx => by
    obtain ⟨e, m⟩ := hx.node hB n1 n2 s1 s2 mB (fun g hg => Nat.lt_of_lt_of_le (lt g hg) b0.size)
    obtain ⟨-, _, _, _, _, _, _, _, _, hc⟩ := hx
    exact ⟨e, (show Hid _ from m.pre b0 h2.lt), (show Hid _ from ⟨(hB.chg hc hn).cell 1, (X0.chg hc hm).cell 1, (X0.chg hc hm).cell 2, (X0.chg hc hm).cell 3⟩)⟩)
  have HS : Hid (W0.drew.cell? ⟨B, 1, none⟩ = some (.pointer (some ⟨S, 0, none⟩)) ∧ W0.drew.cell? ⟨w.heap.size, 1, none⟩ = some (.int .i64 l) ∧ W0.drew.cell? ⟨w.heap.size, 2, none⟩ = some (.int .i64 p) ∧ W0.drew.cell? ⟨w.heap.size, 3, none⟩ = some (.slice ad len cap)) := (show Hid _ from ⟨hB.cell 1, X0.cell 1, X0.cell 2, X0.cell 3⟩)
  generalize s.put l p data true = r at *
  clear h1 h2 n1 n2 s1 s2 mB lt hda hfew X0 hB b0 hn hm
  unfold reqV
  go_enter Tryz.func86, Tryz.ntmps86
  go_wp2_with fail
  go_region_held3 (fun W => W.cell? ⟨B, 1, none⟩ = some (.pointer (some ⟨S, 0, none⟩)) ∧ W.cell? ⟨w.heap.size, 1, none⟩ = some (.int .i64 l) ∧ W.cell? ⟨w.heap.size, 2, none⟩ = some (.int .i64 p) ∧ W.cell? ⟨w.heap.size, 3, none⟩ = some (.slice ad len cap))
    (first | exact HS.out | exact S2.out)
    ((go_at_call 111; refine HC.mono ?_; intro x w2 hx; obtain ⟨rfl, M, S2⟩ := HQ.out _ _ hx; clear hx))
  go_wp2
  go_ret2
  exact ⟨⟨none, 0, 0, []⟩, rfl, rfl, ⟨rfl, fun _ => ⟨rfl, rfl⟩, fun _ h => (by cases h), Or.inl rfl⟩, M.out⟩
set_option maxRecDepth 100000 in
set_option maxHeartbeats 4000000 in
theorem seal_up (h : NUp w F B s) (k l p : Int) (hl1 : -9223372036854775808 ≤ l) (hl2 : l ≤ 9223372036854775807) (ad : Option Addr) (len cap : Nat) (hfew : ∀ x ∈ s.d.bs, x.vs.length ≤ 1000000) :
    Calls Tryz.prog 87 #[.pointer (some ⟨B, 0, none⟩), reqV k l p ad len cap] w (DPost F B (s.seal l).2 [] (s.seal l).1 w) := by
  obtain ⟨FD, G, S, D, X, Y, fx, fy, A, h1, h2, n1, n2, s1, s2, mB, lt⟩ := h
  obtain ⟨W0, hW0⟩ : ∃ W0, w.alloc (.cells #[.int .i64 k, .int .i64 l, .int .i64 p, .slice ad len cap] 27) = W0 := ⟨_, rfl⟩
  have b0 : Below w.heap.size w W0.drew := by rw [← hW0]; exact ((Below.refl _ w).alloc (Nat.le_refl _) _).drew
  have X0 : Blk W0.drew w.heap.size #[.int .i64 k, .int .i64 l, .int .i64 p, .slice ad len cap] 27 := by
    rw [← hW0]
    exact heap_alloc_last w _
  have hB := h2.later b0
  have HC := seal_pic (h1.below b0) l hl1 hl2 hfew
  have hn : B ∉ G ++ FD := fun hm => (List.mem_append.1 hm).elim n2 n1
  have hm : w.heap.size ∉ G ++ FD := fun hm => by
    have := lt _ ((List.mem_append.1 hm).elim (s2 _) (s1 _))
    omega
  have HQ : Hid (∀ x w2, SPost W0.drew FD G S D X Y (s.seal l) x w2 → x = .returned (.int .i64 (s.seal l).1) ∧ Hid (NMoved F B (s.seal l).2 w w2) ∧ Hid (w2.cell? ⟨B, 1, none⟩ = some (.pointer (some ⟨S, 0, none⟩)) ∧ w2.cell? ⟨w.heap.size, 1, none⟩ = some (.int .i64 l))) := (show Hid _ from fun x w2 hx => by
    obtain ⟨e, m⟩ := hx.node hB n1 n2 s1 s2 mB (fun g hg => Nat.lt_of_lt_of_le (lt g hg) b0.size)
    obtain ⟨-, _, _, _, _, _, _, _, _, hc⟩ := hx
    exact ⟨e, (show Hid _ from m.pre b0 h2.lt), (show Hid _ from ⟨(hB.chg hc hn).cell 1, (X0.chg hc hm).cell 1⟩)⟩)
  have HS : Hid (W0.drew.cell? ⟨B, 1, none⟩ = some (.pointer (some ⟨S, 0, none⟩)) ∧ W0.drew.cell? ⟨w.heap.size, 1, none⟩ = some (.int .i64 l)) := (show Hid _ from ⟨hB.cell 1, X0.cell 1⟩)
  generalize s.seal l = r at *
  clear h1 h2 n1 n2 s1 s2 mB lt hfew X0 hB b0 hn hm
  unfold reqV
  go_enter Tryz.func87, Tryz.ntmps87
  go_wp2_with fail
  go_region_held3 (fun W => W.cell? ⟨B, 1, none⟩ = some (.pointer (some ⟨S, 0, none⟩)) ∧ W.cell? ⟨w.heap.size, 1, none⟩ = some (.int .i64 l))
    (first | exact HS.out | exact S2.out)
    ((go_at_call 112; refine HC.mono ?_; intro x w2 hx; obtain ⟨rfl, M, S2⟩ := HQ.out _ _ hx; clear hx))
  go_wp2
  go_ret2
  exact ⟨⟨none, 0, 0, []⟩, rfl, rfl, ⟨rfl, fun _ => ⟨rfl, rfl⟩, fun _ h => (by cases h), Or.inl rfl⟩, M.out⟩
set_option maxRecDepth 100000 in
set_option maxHeartbeats 4000000 in
theorem read_up (h : NUp w F B s) (k l p : Int) (hl1 : -9223372036854775808 ≤ l) (hl2 : l ≤ 9223372036854775807) (ad : Option Addr) (len cap : Nat) (hsm : (s.get l p).1.length ≤ 65504) :
    Calls Tryz.prog 88 #[.pointer (some ⟨B, 0, none⟩), reqV k l p ad len cap] w (DPost F B s (s.get l p).1 (s.get l p).2 w) := by
  have hup := h
  obtain ⟨FD, G, S, D, X, Y, fx, fy, A, h1, h2, n1, n2, s1, s2, mB, lt⟩ := h
  obtain ⟨W0, hW0⟩ : ∃ W0, w.alloc (.cells #[.int .i64 k, .int .i64 l, .int .i64 p, .slice ad len cap] 27) = W0 := ⟨_, rfl⟩
  have b0 : Below w.heap.size w W0.drew := by rw [← hW0]; exact ((Below.refl _ w).alloc (Nat.le_refl _) _).drew
  have X0 : Blk W0.drew w.heap.size #[.int .i64 k, .int .i64 l, .int .i64 p, .slice ad len cap] 27 := by
    rw [← hW0]
    exact heap_alloc_last w _
  have hB := h2.later b0
  have HC := get_pic (h1.below b0) l p hl1 hl2
  have HQ : Hid (∀ x w2, GPost W0.drew (s.get l p) x w2 → ∃ q : Part, x = .returned (.tuple #[.slice q.ad q.len q.cap, .int .i64 (s.get l p).2]) ∧ q.len ≤ 65504 ∧ Hid (q.l = (s.get l p).1 ∧ q.ok w2) ∧ Hid (NMoved F B s w w2) ∧ Hid (w2.cell? ⟨B, 1, none⟩ = some (.pointer (some ⟨S, 0, none⟩)) ∧ w2.cell? ⟨w.heap.size, 1, none⟩ = some (.int .i64 l) ∧ w2.cell? ⟨w.heap.size, 2, none⟩ = some (.int .i64 p))) := (show Hid _ from fun x w2 hx => by
    obtain ⟨v, rfl, hown, hb⟩ := hx
    obtain ⟨q, rfl, e1, k1⟩ := Part.of_own hown
    exact ⟨q, rfl, by rw [← k1.1, e1]; exact hsm, (show Hid _ from ⟨e1, k1⟩), (show Hid _ from hup.moved (b0.trans (hb.mono b0.size))), (show Hid _ from ⟨(hB.later hb).cell 1, (X0.later hb).cell 1, (X0.later hb).cell 2⟩)⟩)
  have HS : Hid (W0.drew.cell? ⟨B, 1, none⟩ = some (.pointer (some ⟨S, 0, none⟩)) ∧ W0.drew.cell? ⟨w.heap.size, 1, none⟩ = some (.int .i64 l) ∧ W0.drew.cell? ⟨w.heap.size, 2, none⟩ = some (.int .i64 p)) := (show Hid _ from ⟨hB.cell 1, X0.cell 1, X0.cell 2⟩)
  generalize s.get l p = r at *
  clear h1 h2 n1 n2 s1 s2 mB lt X0 hB b0 hup hsm
  unfold reqV
  go_enter Tryz.func88, Tryz.ntmps88
  go_wp2_with fail
  go_region_held3 (fun W => W.cell? ⟨B, 1, none⟩ = some (.pointer (some ⟨S, 0, none⟩)) ∧ W.cell? ⟨w.heap.size, 1, none⟩ = some (.int .i64 l) ∧ W.cell? ⟨w.heap.size, 2, none⟩ = some (.int .i64 p))
    (first | exact HS.out | exact S2.out)
    ((go_at_call 113; refine HC.mono ?_; intro x w2 hx; obtain ⟨q, rfl, hq, KQ, M, S2⟩ := HQ.out _ _ hx; clear hx))
  go_wp2
  go_ret2
  exact ⟨q, rfl, KQ.out.1, KQ.out.2, M.out⟩
set_option maxRecDepth 100000 in
theorem look_up (h : NUp w F B s) (k l p : Int) (ad : Option Addr) (len cap : Nat) :
    Calls Tryz.prog 89 #[.pointer (some ⟨B, 0, none⟩), reqV k l p ad len cap] w (DPost F B s [] 0 w) := by
  have HM : Hid (NMoved F B s w (w.alloc (.cells #[.int .i64 k, .int .i64 l, .int .i64 p, .slice ad len cap] 27))) := (show Hid _ from h.moved ((Below.refl _ w).alloc (Nat.le_refl _) _))
  clear h
  unfold reqV
  go_enter Tryz.func89, Tryz.ntmps89
  go_wp2
  go_ret2
  exact ⟨⟨none, 0, 0, []⟩, rfl, rfl, ⟨rfl, fun _ => ⟨rfl, rfl⟩, fun _ h => (by cases h), Or.inl rfl⟩, HM.out⟩
end Go.Proofs.YtjldflfoncfndaaGreat
namespace Go.Proofs.YtjldflfoncfndaaGreat
open Go.RowKit Go.Shelf
variable {w w' W : World} {F : List Nat} {B : Nat} {s : SSt}

/-- What open leaves of a new disk. -/
def OPost (FD : List Nat) (B : Nat) (s : SSt) (w : World) (x : Ending) (w' : World) : Prop := x = .returned (.int .i64 0) ∧ ∃ F', NUp w' F' B s ∧ (∀ g ∈ F', g = B ∨ g ∈ FD ∨ w.heap.size ≤ g) ∧ Chg (B :: FD) w w'
theorem opost_of {FD FD' G : List Nat} {S D X Y : Nat} {fx fy : Lit → Option Value} {A : Nat → Nat → Value} (hB : Blk w B #[.pointer (some ⟨D, 0, none⟩), .pointer none] 72) (hn : B ∉ FD) (hp : SPic w' FD' G S D X Y fx fy A s) (k1 : ∀ g ∈ FD', g ∈ FD ∨ w.heap.size ≤ g) (k2 : ∀ g ∈ G, w.heap.size ≤ g) (hc : Chg FD w w') :
    OPost FD B s w (.returned (.int .i64 0)) (w'.setCell ⟨B, 1, none⟩ (.pointer (some ⟨S, 0, none⟩))) := by
  have hlt := hB.lt
  have n1 : B ∉ FD' := fun hm => (k1 B hm).elim hn (by omega)
  have n2 : B ∉ G := fun hm => absurd (k2 B hm) (by omega)
  have hB' := hB.chg hc hn
  refine ⟨rfl, B :: (FD' ++ G), ⟨FD', G, S, D, X, Y, fx, fy, A, hp.keep (fun g hg => ?_) ?_, hB'.set 1 _, n1, n2, fun g hg => by simp [hg], fun g hg => by simp [hg], by simp, ?_⟩, ?_, ?_⟩
  · have hne : g ≠ B := by rintro rfl; exact hg.elim n1 n2
    exact Below.heap_setCell _ _ _ _ hne
  · simp [World.setCell]
  · intro g hg
    simp only [List.mem_cons, List.mem_append] at hg
    have : (w'.setCell ⟨B, 1, none⟩ (.pointer (some ⟨S, 0, none⟩))).heap.size = w'.heap.size := by simp [World.setCell]
    rw [this]
    rcases hg with rfl | hg | hg
    · exact hB'.lt
    · exact hp.disk.lt g hg
    · exact hp.lt g hg
  · intro g hg
    simp only [List.mem_cons, List.mem_append] at hg
    rcases hg with rfl | hg | hg
    · exact Or.inl rfl
    · exact Or.inr (k1 g hg)
    · exact Or.inr (Or.inr (k2 g hg))
  · exact (hc.mono (fun k hk => by simp [hk])).set (Or.inl (by simp)) _ _
set_option maxRecDepth 100000 in
set_option maxHeartbeats 1000000 in
theorem open_ground {FD : List Nat} {D : Nat} {d : DSt} (hB : Blk w B #[.pointer (some ⟨D, 0, none⟩), .pointer none] 72) (hd : Dk w FD D d) (hn : B ∉ FD) (ho : d.off = false) (hz : ∀ x ∈ d.bs, x = b0) :
    Calls Tryz.prog 49 #[.pointer (some ⟨B, 0, none⟩)] w (OPost FD B (sst0 d) w) := by
  have HO := open_new hd ho hz
  have c0 : w.cell? ⟨B, 0, none⟩ = some (.pointer (some ⟨D, 0, none⟩)) := hB.cell 0
  have HC : Hid (∀ w', Chg FD w w' → w'.cell? ⟨B, 1, none⟩ = some (.pointer none) ∧ w'.frozen? ⟨B, 1, none⟩ = false) := (show Hid _ from fun w' hc => ⟨(hB.chg hc hn).cell 1, (hB.chg hc hn).free 1⟩)
  have HB : Hid (Blk w B #[.pointer (some ⟨D, 0, none⟩), .pointer none] 72) := hB
  clear hd ho hz hB
  go_enter Tryz.func49, Tryz.ntmps49
  go_wp2_with (go_at_call 76; refine HO.mono ?_; rintro x w1 ⟨S, rfl, FD', G, X, Y, fx, fy, A, hp, k1, k2, hc⟩; obtain ⟨c1, f1⟩ := HC.out _ hc; have HP : Hid (OPost FD B (sst0 d) w (.returned (.int .i64 0)) (w1.setCell ⟨B, 1, none⟩ (.pointer (some ⟨S, 0, none⟩)))) := (show Hid _ from opost_of HB.out hn hp k1 k2 hc); clear hp k1 k2 hc)
  go_ret
  exact HP.out
/-- What New answers. -/
def NewPost (s : SSt) (w : World) (x : Ending) (w' : World) : Prop := ∃ F B, x = .returned (.tuple #[.pointer (some ⟨B, 0, none⟩), .int .i64 0]) ∧ NUp w' F B s ∧ (∀ g ∈ F, w.heap.size ≤ g) ∧ Below w.heap.size w w'
set_option maxRecDepth 100000 in
set_option maxHeartbeats 1000000 in
theorem new_up (n : Int) (w : World) (h1 : 1 ≤ n) (h2 : n ≤ 4096) : Calls Tryz.prog 24 #[.int .i64 n] w (NewPost (sst0 (newD n.toNat)) w) := by
  have HN := new_ok n w h1 h2
  have HO : Hid (∀ (w1 : World) (F : List Nat) (D : Nat), Dk w1 F D (newD n.toNat) → (∀ g ∈ F, w.heap.size ≤ g) → Below w.heap.size w w1 → Calls Tryz.prog 49 #[.pointer (some ⟨w1.heap.size, 0, none⟩)] (w1.alloc (.cells #[.pointer (some ⟨D, 0, none⟩), .pointer none] 72)) fun x w' => x = .returned (.int .i64 0) ∧ Hid (NewPost (sst0 (newD n.toNat)) w (.returned (.tuple #[.pointer (some ⟨w1.heap.size, 0, none⟩), .int .i64 0])) w')) := (show Hid _ from fun w1 F D hd hF hb => by
    obtain ⟨f1, f2, f3⟩ := new_free n.toNat
    have hb1 : Below w1.heap.size w1 (w1.alloc (.cells #[.pointer (some ⟨D, 0, none⟩), .pointer none] 72)) := (Below.refl _ _).alloc (Nat.le_refl _) _
    refine (open_ground (heap_alloc_last w1 _) (hd.keep (fun g hg => hb1.block g (hd.lt g hg)) hb1.size) (fun hm => absurd (hd.lt _ hm) (by omega)) f1.on f3).mono ?_
    rintro x w' ⟨rfl, F', hu, hF', hc⟩
    have hs1 : w1.heap.size ≤ (w1.alloc (.cells #[.pointer (some ⟨D, 0, none⟩), .pointer none] 72)).heap.size := hb1.size
    refine ⟨rfl, (show Hid _ from ⟨F', w1.heap.size, rfl, hu, fun g hg => ?_, ?_⟩)⟩
    · rcases hF' g hg with rfl | h | h
      · exact hb.size
      · exact hF g h
      · exact Nat.le_trans hb.size (Nat.le_trans hs1 h)
    · refine (hb.trans (hb1.mono hb.size)).trans (hc.below (fun g hg => ?_) (Nat.le_trans hb.size hs1))
      simp only [List.mem_cons] at hg
      rcases hg with rfl | hg
      · exact hb.size
      · exact hF g hg)
  go_enter Tryz.func24, Tryz.ntmps24
  go_wp2_with (first
    | (go_at_call 48; refine HN.mono ?_; rintro x w1 ⟨F, D, rfl, hd, hF, hb⟩; have HO1 := HO.out w1 F D hd hF hb; clear hd hF hb HN HO)
    | (go_at_call 49; refine HO1.mono ?_; rintro x w2 ⟨rfl, HP⟩; clear HO1))
  go_ret2
  exact HP.out
end Go.Proofs.YtjldflfoncfndaaGreat
