/- seal of package store: what an entry of that kind does. -/
import Derived.Test.YtikomnbhmmjfnaaGreatSLooks
import Derived.Test.YtikomnbhmmjfnaaGreatSTell
import Derived.Deep.RegionLaw
namespace Go.Proofs.YtikomnbhmmjfnaaGreat
open Go.RowKit
variable {w w' : World} {FD G : List Nat} {S D X Y : Nat} {fx fy : Lit → Option Value} {A : Nat → Nat → Value} {s : SSt}

/-- What is left behind a region, once for all its orders. -/
theorem once {T G : Prop} (main : T → G) (rest : T) : G := main rest
theorem look_nat (s : SSt) (l : Nat) : s.look (l : Int) = s.log l := by unfold SSt.look; rw [if_pos (by omega)]; rfl
theorem SSt.ok.log {s : SSt} (h : s.ok) (l : Nat) : (s.log l).tail ≤ 4096 ∧ (s.log l).trim ≤ 4096 := by
  unfold SSt.log
  cases hl : s.logs l with
  | none => simp [l0]
  | some x => exact (h.logs l x hl).2
/-- Behind a store into the map of loglets. -/
theorem SPic.setY (h : SPic w FD G S D X Y fx fy A s) (hc : Chg [Y] w w') {n l : Nat} {x : LSt} (hm : MapF w' 3 Y n (updF fy (kI l) (some (logV x)))) (hn : n ≤ s.num) (hl : l < 281474976710656) (hx : x.tail ≤ 4096 ∧ x.trim ≤ 4096) : SPic w' FD G S D X Y fx (updF fy (kI l) (some (logV x))) A (s.setLog l x) := by
  have hk : ∀ g ∈ G, g ≠ Y → w'.heap[g]? = w.heap[g]? := fun g hg hne => hc.block g (h.lt g hg) (by simpa using hne)
  have hd : ∀ g ∈ FD, w'.heap[g]? = w.heap[g]? := fun g hg => hc.block g (h.disk.lt g hg) (by simp; intro e; subst e; exact h.apart _ h.mY hg)
  refine ⟨⟨h.ok.slots, fun i y hy => ?_, h.ok.num, h.ok.fin⟩, h.disk.keep hd hc.size, (hk S h.mS h.neS.2).trans h.hS, h.hX.keep (hk X h.mX h.ne), hm.mono hn, h.getX, ?_, fun i => ?_, fun kl v hv => ?_, h.mS, h.mX, h.mY, h.ne, h.apart, fun g hg => Nat.lt_of_lt_of_le (h.lt g hg) hc.size⟩
  · simp only [SSt.setLog] at hy
    split at hy
    · rename_i e; cases hy; subst e; exact ⟨hl, hx⟩
    · exact h.ok.logs i y hy
  · intro i q d hd'
    obtain ⟨ad, cap, e, hp, hg⟩ := h.dat i q d hd'
    refine ⟨ad, cap, e, hp.chg hc (fun b off e2 h0 => ?_), hg⟩
    intro hm'
    have e3 : b = Y := by simpa using hm'
    subst e3
    obtain ⟨es, c, hb⟩ := h.hY.isMap
    rcases hp.2.2.2 with h1 | ⟨b', off', e4, hlt, hcell⟩
    · exact h0 h1
    · have e4 : ad = some ⟨b', off', none⟩ := e4
      have e2 : ad = some ⟨b, off, none⟩ := e2
      rw [e2] at e4
      cases e4
      have h2 := hcell 0 (List.length_pos_iff.2 h0)
      simp only [World.cell?, hb] at h2
      cases h2
  · by_cases e : i = l
    · subst e; rw [updF_same]; simp [SSt.setLog]
    · rw [updF_other _ (fun e2 => e (kI_inj e2)), h.getY]; simp [SSt.setLog, e]
  · by_cases e : kl = kI l
    · exact ⟨l, hl, e⟩
    · rw [updF_other _ e] at hv; exact h.supY kl v hv
set_option maxRecDepth 100000 in
set_option maxHeartbeats 400000 in
theorem sealL_pic (h : SPic w FD G S D X Y fx fy A s) (n : Nat) (hn : n + 1 ≤ s.num) (hy : MapF w 3 Y n fy) (l p : Nat) (hl : l < 281474976710656) (v : Option Addr) (len cap : Nat) :
    Calls Tryz.prog 127 #[.pointer (some ⟨S, 0, none⟩), slotV l p, .slice v len cap] w fun e w' => e = .returned (.tuple #[]) ∧ ∃ fy', SPic w' FD G S D X Y fx fy' A (s.sealL l) ∧ Chg [Y] w w' := by
  have b1 : Below w.heap.size w (w.alloc (.cells #[.int .i64 (l : Int), .int .i64 (p : Int)] TSl)) := (Below.refl _ w).alloc (Nat.le_refl _) _
  have h1 := h.below b1
  have h1d := h1.below (Below.refl _ _).drew
  have h2 := (h1.below ((Below.refl _ _).alloc (Nat.le_refl _) (.cells #[.int .i64 0, .int .i64 0, .bool false] 96))).below (Below.refl _ _).drew
  have hlk := h1d.lookY (l : Int) (by omega) (by omega)
  have hlk2 := h2.lookY (l : Int) (by omega) (by omega)
  obtain ⟨-, -, c2, -⟩ := h.cells
  obtain ⟨-, -, c2', -⟩ := h1.cells
  have hS := h.ltS
  have bw : Below w.heap.size w (((w.alloc (.cells #[.int .i64 (l : Int), .int .i64 (p : Int)] TSl)).alloc (.cells #[.int .i64 ((s.look (l : Int)).tail : Int), .int .i64 ((s.look (l : Int)).trim : Int), .bool true] 96)).drew).drew := ((b1.alloc (by simp) _).drew).drew
  have h4 := h.below bw
  obtain ⟨w4, hst, hm4, hc4⟩ := (hy.keep (bw.block Y (h.lt Y h.mY))).store (t := 53) keyI Tryz.underlying53 (by have := h.num_le; unfold maxLen; omega) (key := .int .i64 (l : Int)) (val := logV ⟨(s.look (l : Int)).tail, (s.look (l : Int)).trim, true⟩) (keyOf_i (by omega))
  have hfin : Ending.returned (.tuple #[]) = .returned (.tuple #[]) ∧ ∃ fy', SPic w4 FD G S D X Y fx fy' A (s.sealL l) ∧ Chg [Y] w w4 := by
    have h5 := h4.setY hc4 hm4 hn hl (by rw [look_nat]; exact h.ok.log l)
    rw [look_nat] at h5
    exact ⟨rfl, _, h5, (Chg.of bw).trans hc4 (fun k hk => Or.inl hk)⟩
  have HF := hide hfin
  unfold logV at hst
  clear h4 hm4 hc4 bw hfin
  unfold slotV
  unfold logV at hlk hlk2
  have HH := hide h
  have HY := hide hy
  clear h h1 h1d h2 b1 hy
  go_enter Tryz.func127, Tryz.ntmps127
  go_wp2
  apply once
  case main =>
    intro hm
    go_region_law (fail)
    all_goals exact hm
  clear hlk hlk2
  go_wp2
  apply once
  case main =>
    intro hm
    go_region_law (fail)
    all_goals exact hm
  go_wp2
  exact bodyPost_end (results_none rfl _ _ _) rfl ⟨rfl, HF.out.2⟩
end Go.Proofs.YtikomnbhmmjfnaaGreat

/- fill of package store: what an entry of that kind does. -/
namespace Go.Proofs.YtikomnbhmmjfnaaGreat
open Go.RowKit
variable {w w' : World} {FD G : List Nat} {S D X Y : Nat} {fx fy : Lit → Option Value} {A : Nat → Nat → Value} {s : SSt}

/-- The block of a slice. -/
def dB : Option Addr → List Nat
  | some a => [a.block]
  | none => []
/-- More blocks are the store's. -/
theorem SPic.more (h : SPic w FD G S D X Y fx fy A s) (H : List Nat) (h1 : ∀ g ∈ H, g < w.heap.size) (h2 : ∀ g ∈ H, g ∉ FD) : SPic w FD (H ++ G) S D X Y fx fy A s :=
  ⟨h.ok, h.disk, h.hS, h.hX, h.hY, h.getX, fun l p d hd => by
    obtain ⟨ad, cap, e, hp, hg⟩ := h.dat l p d hd
    exact ⟨ad, cap, e, hp, fun b off e h0 => List.mem_append_right _ (hg b off e h0)⟩, h.getY, h.supY, List.mem_append_right _ h.mS, List.mem_append_right _ h.mX, List.mem_append_right _ h.mY, h.ne, fun g hg => (List.mem_append.1 hg).elim (h2 g) (h.apart g), fun g hg => (List.mem_append.1 hg).elim (h1 g) (h.lt g)⟩
/-- A part that no map's block can be. -/
theorem part_map {p : Part} {M : Nat} {es : Array MapEntry} {c : Nat} (hp : p.ok w) (hm : w.heap[M]? = some (.map es c)) (hc : Chg [M] w w') : p.ok w' := hp.chg hc (fun b off e h0 hmem => by
  have e3 : b = M := by simpa using hmem
  subst e3
  rcases hp.2.2.2 with h1 | ⟨b', off', e4, hlt, hcell⟩
  · exact h0 h1
  · rw [e] at e4
    cases e4
    have h2 := hcell 0 (List.length_pos_iff.2 h0)
    simp only [World.cell?, hm] at h2
    cases h2)
/-- Behind a store into the map of slots. -/
theorem SPic.setX (h : SPic w FD G S D X Y fx fy A s) (hc : Chg [X] w w') {n l p : Nat} {ad : Option Addr} {cap : Nat} {d : List Nat} (hm : MapF w' TSl X n (updF fx (kS l p) (some (.slice ad d.length cap)))) (hn : n ≤ s.num) (hl : l < 281474976710656) (hp : p < 4096) (hd : d.length ≤ 65536)
    (hpt : Part.ok w ⟨ad, d.length, cap, d⟩) (hb : ∀ b off, ad = some ⟨b, off, none⟩ → d ≠ [] → b ∈ G) : SPic w' FD G S D X Y (updF fx (kS l p) (some (.slice ad d.length cap))) fy (fun i q => if i = l ∧ q = p then .slice ad d.length cap else A i q) (s.setSlot l p (some d)) := by
  have hk : ∀ g ∈ G, g ≠ X → w'.heap[g]? = w.heap[g]? := fun g hg hne => hc.block g (h.lt g hg) (by simpa using hne)
  have hdk : ∀ g ∈ FD, w'.heap[g]? = w.heap[g]? := fun g hg => hc.block g (h.disk.lt g hg) (by simp; intro e; subst e; exact h.apart _ h.mX hg)
  obtain ⟨es, c, hx⟩ := h.hX.isMap
  refine ⟨⟨fun i q e he => ?_, h.ok.logs, h.ok.num, h.ok.fin⟩, h.disk.keep hdk hc.size, (hk S h.mS h.neS.1).trans h.hS, hm.mono hn, h.hY.keep (hk Y h.mY h.ne.symm), fun i q hi hq => ?_, fun i q e he => ?_, h.getY, h.supY, h.mS, h.mX, h.mY, h.ne, h.apart, fun g hg => Nat.lt_of_lt_of_le (h.lt g hg) hc.size⟩
  · simp only [SSt.setSlot] at he
    split at he
    · rename_i e1; cases he; obtain ⟨rfl, rfl⟩ := e1; exact ⟨hl, hp, hd⟩
    · exact h.ok.slots i q e he
  · by_cases e : i = l ∧ q = p
    · obtain ⟨rfl, rfl⟩ := e; rw [updF_same]; simp [SSt.setSlot]
    · rw [updF_other _ (fun e2 => e (kS_inj (by omega) (by omega) (by omega) (by omega) e2)), h.getX i q hi hq]; simp [SSt.setSlot, e]
  · simp only [SSt.setSlot] at he
    by_cases e1 : i = l ∧ q = p
    · rw [if_pos e1] at he
      cases he
      exact ⟨ad, cap, if_pos e1, part_map hpt hx hc, hb⟩
    · rw [if_neg e1] at he
      obtain ⟨ad', cap', e2, hp', hg⟩ := h.dat i q e he
      exact ⟨ad', cap', by rw [if_neg e1]; exact e2, part_map hp' hx hc, hg⟩
set_option maxRecDepth 100000 in
theorem SPic.lookX (h : SPic w FD G S D X Y fx fy A s) (l p : Nat) (hl : l < 281474976710656) (hp : p < 4096) : (Instr.lookup 52 (.map (some X)) (.agg #[.int .i64 (l : Int), .int .i64 (p : Int)]) true).run Tryz.prog w = .ok (.tuple #[((s.slots l p).map fun _ => A l p).getD (.slice none 0 0), .bool (s.slots l p).isSome]) w := by
  have hk := h.hX.look_ok keySl Tryz.underlying52 (Tryz.zeroValue28 w) (keyOf_s (l := l) (p := p) (by omega) (by omega))
  rw [h.getX l p hl hp] at hk
  unfold slotV at hk
  rw [hk]
  cases s.slots l p <;> rfl
end Go.Proofs.YtikomnbhmmjfnaaGreat

/- fill of package store: its walk (written by wip/genfill.py). -/
namespace Go.Proofs.YtikomnbhmmjfnaaGreat
open Go.RowKit
variable {w w' : World} {FD G : List Nat} {S D X Y : Nat} {fx fy : Lit → Option Value} {A : Nat → Nat → Value} {s : SSt}

set_option maxRecDepth 100000 in
set_option maxHeartbeats 1000000 in
theorem fill_a1 (h : SPic w FD G S D X Y fx fy A s) (n : Nat) (hn : n + 1 ≤ s.num) (_ : MapF w TSl X n fx) (hy : MapF w 3 Y n fy) (l p : Nat) (hl : l < 281474976710656) (hp : p < 4096) (ad : Option Addr) (len cap : Nat) (data : List Nat) (_ : Part.ok w ⟨ad, len, cap, data⟩) (_ : data.length ≤ 65536) (hb : ∀ g ∈ dB ad, g < w.heap.size ∧ g ∉ FD)
    (hmx : (s.log l).tail < p + 1) (hsl : s.slots l p ≠ none) :
    Calls Tryz.prog 126 #[.pointer (some ⟨S, 0, none⟩), slotV l p, .slice ad len cap] w fun e w' => e = .returned (.tuple #[]) ∧ ∃ fx' fy' A', SPic w' FD (dB ad ++ G) S D X Y fx' fy' A' (s.fill l p data) ∧ Chg [X, Y] w w' := by
  have hlog := h.ok.log l
  have hmx2 : ((s.log l).tail : Int) < (p : Int) + 1 := by have := hmx; omega
  obtain ⟨x, hx0⟩ : ∃ x, s.look (l : Int) = x := ⟨_, rfl⟩
  have hxl : s.log l = x := by rw [← hx0, look_nat]
  rw [hxl] at hmx hlog hmx2
  have b1 : Below w.heap.size w (w.alloc (.cells #[.int .i64 (l : Int), .int .i64 (p : Int)] TSl)) := (Below.refl _ w).alloc (Nat.le_refl _) _
  have h1 := h.below b1
  have h1d := h1.below (Below.refl _ _).drew
  have h2 := (h1.below ((Below.refl _ _).alloc (Nat.le_refl _) (.cells #[.int .i64 0, .int .i64 0, .bool false] 96))).below (Below.refl _ _).drew
  have hlk := h1d.lookY (l : Int) (by omega) (by omega)
  have hlk2 := h2.lookY (l : Int) (by omega) (by omega)
  rw [hx0] at hlk hlk2
  unfold logV at hlk hlk2
  obtain ⟨-, -, c2, -⟩ := h.cells
  obtain ⟨-, -, c2', -⟩ := h1.cells
  have hS := h.ltS
  have bw : Below w.heap.size w (((w.alloc (.cells #[.int .i64 (l : Int), .int .i64 (p : Int)] TSl)).alloc (.cells #[.int .i64 ((p : Int) + 1), .int .i64 (x.trim : Int), .bool x.sealed] 96)).drew).drew := ((b1.alloc (by simp) _).drew).drew
  have h4 := h.below bw
  obtain ⟨w4, hst, hm4, hc4⟩ := (hy.keep (bw.block Y (h.lt Y h.mY))).store (t := 53) keyI Tryz.underlying53 (by have := h.num_le; unfold maxLen; omega) (key := .int .i64 (l : Int)) (val := .agg #[.int .i64 ((p : Int) + 1), .int .i64 (x.trim : Int), .bool x.sealed]) (keyOf_i (by omega))
  have h5 : SPic w4 FD G S D X Y fx (updF fy (kI l) (some (logV ⟨max x.tail (p + 1), x.trim, x.sealed⟩))) A (s.setLog l ⟨max x.tail (p + 1), x.trim, x.sealed⟩) := by
    have e : logV ⟨max x.tail (p + 1), x.trim, x.sealed⟩ = .agg #[.int .i64 ((p : Int) + 1), .int .i64 (x.trim : Int), .bool x.sealed] := by
      unfold logV
      have e2 : ((max x.tail (p + 1) : Nat) : Int) = ((p : Int) + 1) := by have := hmx; omega
      simp only [e2]
    rw [← e] at hm4
    exact h4.setY hc4 hm4 hn hl (by have := hlog; simp only; omega)
  have hYl := h.lt Y h.mY
  have k1 : w4.heap[w.heap.size]? = some (.cells #[.int .i64 (l : Int), .int .i64 (p : Int)] TSl (0, 0)) := (hc4.block w.heap.size (by simp; omega) (by simp; omega)).trans ((Below.heap_alloc _ _ _ (by simp)).trans (heap_alloc_last w _))
  have k2 : w4.heap[w.heap.size + 1]? = some (.cells #[.int .i64 ((p : Int) + 1), .int .i64 (x.trim : Int), .bool x.sealed] 96 (0, 0)) := by
    refine (hc4.block (w.heap.size + 1) (by simp) (by simp; omega)).trans ?_
    have := heap_alloc_last (w.alloc (.cells #[.int .i64 (l : Int), .int .i64 (p : Int)] TSl)) (.cells #[.int .i64 ((p : Int) + 1), .int .i64 (x.trim : Int), .bool x.sealed] 96)
    rw [World.size_alloc] at this
    exact this
  have s0 : w4.cell? ⟨w.heap.size, 0, none⟩ = some (.int .i64 (l : Int)) := cell_of_row _ _ _ _ _ _ k1
  have s1 : w4.cell? ⟨w.heap.size, 1, none⟩ = some (.int .i64 (p : Int)) := cell_of_row _ _ _ _ _ _ k1
  have s3 : w4.cell? ⟨w.heap.size + 1, 1, none⟩ = some (.int .i64 (x.trim : Int)) := cell_of_row _ _ _ _ _ _ k2
  obtain ⟨-, d1, -⟩ := h5.cells
  have hlx := (h5.below (Below.refl _ _).drew).lookX l p hl hp
  have hcw : Chg [X, Y] w w4 := (Chg.of bw).trans hc4 (fun k hk => Or.inl (by simp at hk; simp [hk]))
  have hbH1 : ∀ g ∈ dB ad, g < w4.heap.size := fun g hg => Nat.lt_of_lt_of_le (hb g hg).1 hcw.size
  have hsf : s.fill l p data = s.setLog l ⟨max x.tail (p + 1), x.trim, x.sealed⟩ := by unfold SSt.fill; rw [hxl, if_neg (by exact fun e => hsl e.1)]
  have HF := hide (fun m : Nat => (⟨_, _, _, by rw [hsf]; exact (h5.more (dB ad) hbH1 (fun g hg => (hb g hg).2)).below (below_drewN' (Below.refl _ _) m), hcw.trans (Chg.of (F := [X, Y]) (below_drewN' (Below.refl _ w4) m)) (fun k hk => Or.inl hk)⟩ : ∃ fx' fy' A', SPic (w4.drewN m) FD (dB ad ++ G) S D X Y fx' fy' A' (s.fill l p data) ∧ Chg [X, Y] w (w4.drewN m)))
  have HS := hide hsl
  obtain ⟨d0, hd0⟩ := Option.ne_none_iff_exists'.1 hsl; rw [show (s.setLog l ⟨max x.tail (p + 1), x.trim, x.sealed⟩).slots l p = some d0 from hd0] at hlx; clear hd0; simp only [Option.map_some, Option.getD_some, Option.isSome_some] at hlx
  clear h h1 h1d h2 b1 hy bw h4 hm4 hc4 h5 k1 k2 hb hcw hsl hxl hx0 hlog hbH1 hsf hYl
  unfold slotV
  go_enter Tryz.func126, Tryz.ntmps126
  go_wp2
  apply once
  case main =>
    intro hm
    go_region_law (fail)
    all_goals exact hm
  clear hlk hlk2
  go_wp2
  apply once
  case main =>
    intro hm
    go_region_law (fail)
    all_goals exact hm
  clear hst
  go_wp2
  apply once
  case main =>
    intro hm
    go_region_law (fail)
    all_goals exact hm
  go_wp2
  exact bodyPost_end (results_none rfl _ _ _) rfl ⟨rfl, HF.out 1⟩
set_option maxRecDepth 100000 in
set_option maxHeartbeats 1000000 in
theorem fill_a2 (h : SPic w FD G S D X Y fx fy A s) (n : Nat) (hn : n + 1 ≤ s.num) (_ : MapF w TSl X n fx) (hy : MapF w 3 Y n fy) (l p : Nat) (hl : l < 281474976710656) (hp : p < 4096) (ad : Option Addr) (len cap : Nat) (data : List Nat) (_ : Part.ok w ⟨ad, len, cap, data⟩) (_ : data.length ≤ 65536) (hb : ∀ g ∈ dB ad, g < w.heap.size ∧ g ∉ FD)
    (hmx : (s.log l).tail < p + 1) (hsl : s.slots l p = none ∧ p < (s.log l).trim) :
    Calls Tryz.prog 126 #[.pointer (some ⟨S, 0, none⟩), slotV l p, .slice ad len cap] w fun e w' => e = .returned (.tuple #[]) ∧ ∃ fx' fy' A', SPic w' FD (dB ad ++ G) S D X Y fx' fy' A' (s.fill l p data) ∧ Chg [X, Y] w w' := by
  have hlog := h.ok.log l
  have hmx2 : ((s.log l).tail : Int) < (p : Int) + 1 := by have := hmx; omega
  obtain ⟨x, hx0⟩ : ∃ x, s.look (l : Int) = x := ⟨_, rfl⟩
  have hxl : s.log l = x := by rw [← hx0, look_nat]
  rw [hxl] at hmx hlog hmx2 hsl
  have b1 : Below w.heap.size w (w.alloc (.cells #[.int .i64 (l : Int), .int .i64 (p : Int)] TSl)) := (Below.refl _ w).alloc (Nat.le_refl _) _
  have h1 := h.below b1
  have h1d := h1.below (Below.refl _ _).drew
  have h2 := (h1.below ((Below.refl _ _).alloc (Nat.le_refl _) (.cells #[.int .i64 0, .int .i64 0, .bool false] 96))).below (Below.refl _ _).drew
  have hlk := h1d.lookY (l : Int) (by omega) (by omega)
  have hlk2 := h2.lookY (l : Int) (by omega) (by omega)
  rw [hx0] at hlk hlk2
  unfold logV at hlk hlk2
  obtain ⟨-, -, c2, -⟩ := h.cells
  obtain ⟨-, -, c2', -⟩ := h1.cells
  have hS := h.ltS
  have bw : Below w.heap.size w (((w.alloc (.cells #[.int .i64 (l : Int), .int .i64 (p : Int)] TSl)).alloc (.cells #[.int .i64 ((p : Int) + 1), .int .i64 (x.trim : Int), .bool x.sealed] 96)).drew).drew := ((b1.alloc (by simp) _).drew).drew
  have h4 := h.below bw
  obtain ⟨w4, hst, hm4, hc4⟩ := (hy.keep (bw.block Y (h.lt Y h.mY))).store (t := 53) keyI Tryz.underlying53 (by have := h.num_le; unfold maxLen; omega) (key := .int .i64 (l : Int)) (val := .agg #[.int .i64 ((p : Int) + 1), .int .i64 (x.trim : Int), .bool x.sealed]) (keyOf_i (by omega))
  have h5 : SPic w4 FD G S D X Y fx (updF fy (kI l) (some (logV ⟨max x.tail (p + 1), x.trim, x.sealed⟩))) A (s.setLog l ⟨max x.tail (p + 1), x.trim, x.sealed⟩) := by
    have e : logV ⟨max x.tail (p + 1), x.trim, x.sealed⟩ = .agg #[.int .i64 ((p : Int) + 1), .int .i64 (x.trim : Int), .bool x.sealed] := by
      unfold logV
      have e2 : ((max x.tail (p + 1) : Nat) : Int) = ((p : Int) + 1) := by have := hmx; omega
      simp only [e2]
    rw [← e] at hm4
    exact h4.setY hc4 hm4 hn hl (by have := hlog; simp only; omega)
  have hYl := h.lt Y h.mY
  have k1 : w4.heap[w.heap.size]? = some (.cells #[.int .i64 (l : Int), .int .i64 (p : Int)] TSl (0, 0)) := (hc4.block w.heap.size (by simp; omega) (by simp; omega)).trans ((Below.heap_alloc _ _ _ (by simp)).trans (heap_alloc_last w _))
  have k2 : w4.heap[w.heap.size + 1]? = some (.cells #[.int .i64 ((p : Int) + 1), .int .i64 (x.trim : Int), .bool x.sealed] 96 (0, 0)) := by
    refine (hc4.block (w.heap.size + 1) (by simp) (by simp; omega)).trans ?_
    have := heap_alloc_last (w.alloc (.cells #[.int .i64 (l : Int), .int .i64 (p : Int)] TSl)) (.cells #[.int .i64 ((p : Int) + 1), .int .i64 (x.trim : Int), .bool x.sealed] 96)
    rw [World.size_alloc] at this
    exact this
  have s0 : w4.cell? ⟨w.heap.size, 0, none⟩ = some (.int .i64 (l : Int)) := cell_of_row _ _ _ _ _ _ k1
  have s1 : w4.cell? ⟨w.heap.size, 1, none⟩ = some (.int .i64 (p : Int)) := cell_of_row _ _ _ _ _ _ k1
  have s3 : w4.cell? ⟨w.heap.size + 1, 1, none⟩ = some (.int .i64 (x.trim : Int)) := cell_of_row _ _ _ _ _ _ k2
  obtain ⟨-, d1, -⟩ := h5.cells
  have hlx := (h5.below (Below.refl _ _).drew).lookX l p hl hp
  have hcw : Chg [X, Y] w w4 := (Chg.of bw).trans hc4 (fun k hk => Or.inl (by simp at hk; simp [hk]))
  have hbH1 : ∀ g ∈ dB ad, g < w4.heap.size := fun g hg => Nat.lt_of_lt_of_le (hb g hg).1 hcw.size
  have hsf : s.fill l p data = s.setLog l ⟨max x.tail (p + 1), x.trim, x.sealed⟩ := by unfold SSt.fill; rw [hxl, if_neg (by omega)]
  have HF := hide (fun m : Nat => (⟨_, _, _, by rw [hsf]; exact (h5.more (dB ad) hbH1 (fun g hg => (hb g hg).2)).below (below_drewN' (Below.refl _ _) m), hcw.trans (Chg.of (F := [X, Y]) (below_drewN' (Below.refl _ w4) m)) (fun k hk => Or.inl hk)⟩ : ∃ fx' fy' A', SPic (w4.drewN m) FD (dB ad ++ G) S D X Y fx' fy' A' (s.fill l p data) ∧ Chg [X, Y] w (w4.drewN m)))
  have HS := hide hsl
  rw [show (s.setLog l ⟨max x.tail (p + 1), x.trim, x.sealed⟩).slots l p = none from hsl.1] at hlx; simp only [Option.map_none, Option.getD_none, Option.isSome_none] at hlx; have hge := hsl.2
  clear h h1 h1d h2 b1 hy bw h4 hm4 hc4 h5 k1 k2 hb hcw hsl hxl hx0 hlog hbH1 hsf hYl
  unfold slotV
  go_enter Tryz.func126, Tryz.ntmps126
  go_wp2
  apply once
  case main =>
    intro hm
    go_region_law (fail)
    all_goals exact hm
  clear hlk hlk2
  go_wp2
  apply once
  case main =>
    intro hm
    go_region_law (fail)
    all_goals exact hm
  clear hst
  go_wp2
  apply once
  case main =>
    intro hm
    go_region_law (fail)
    all_goals exact hm
  go_wp2
  exact bodyPost_end (results_none rfl _ _ _) rfl ⟨rfl, HF.out 1⟩
set_option maxRecDepth 100000 in
set_option maxHeartbeats 1000000 in
theorem fill_a3 (h : SPic w FD G S D X Y fx fy A s) (n : Nat) (hn : n + 1 ≤ s.num) (hx : MapF w TSl X n fx) (hy : MapF w 3 Y n fy) (l p : Nat) (hl : l < 281474976710656) (hp : p < 4096) (ad : Option Addr) (len cap : Nat) (data : List Nat) (hda : Part.ok w ⟨ad, len, cap, data⟩) (hlen : data.length ≤ 65536) (hb : ∀ g ∈ dB ad, g < w.heap.size ∧ g ∉ FD)
    (hmx : (s.log l).tail < p + 1) (hsl : s.slots l p = none ∧ (s.log l).trim ≤ p) :
    Calls Tryz.prog 126 #[.pointer (some ⟨S, 0, none⟩), slotV l p, .slice ad len cap] w fun e w' => e = .returned (.tuple #[]) ∧ ∃ fx' fy' A', SPic w' FD (dB ad ++ G) S D X Y fx' fy' A' (s.fill l p data) ∧ Chg [X, Y] w w' := by
  have hlog := h.ok.log l
  have hmx2 : ((s.log l).tail : Int) < (p : Int) + 1 := by have := hmx; omega
  obtain ⟨x, hx0⟩ : ∃ x, s.look (l : Int) = x := ⟨_, rfl⟩
  have hxl : s.log l = x := by rw [← hx0, look_nat]
  rw [hxl] at hmx hlog hmx2 hsl
  have b1 : Below w.heap.size w (w.alloc (.cells #[.int .i64 (l : Int), .int .i64 (p : Int)] TSl)) := (Below.refl _ w).alloc (Nat.le_refl _) _
  have h1 := h.below b1
  have h1d := h1.below (Below.refl _ _).drew
  have h2 := (h1.below ((Below.refl _ _).alloc (Nat.le_refl _) (.cells #[.int .i64 0, .int .i64 0, .bool false] 96))).below (Below.refl _ _).drew
  have hlk := h1d.lookY (l : Int) (by omega) (by omega)
  have hlk2 := h2.lookY (l : Int) (by omega) (by omega)
  rw [hx0] at hlk hlk2
  unfold logV at hlk hlk2
  obtain ⟨-, -, c2, -⟩ := h.cells
  obtain ⟨-, -, c2', -⟩ := h1.cells
  have hS := h.ltS
  have bw : Below w.heap.size w (((w.alloc (.cells #[.int .i64 (l : Int), .int .i64 (p : Int)] TSl)).alloc (.cells #[.int .i64 ((p : Int) + 1), .int .i64 (x.trim : Int), .bool x.sealed] 96)).drew).drew := ((b1.alloc (by simp) _).drew).drew
  have h4 := h.below bw
  obtain ⟨w4, hst, hm4, hc4⟩ := (hy.keep (bw.block Y (h.lt Y h.mY))).store (t := 53) keyI Tryz.underlying53 (by have := h.num_le; unfold maxLen; omega) (key := .int .i64 (l : Int)) (val := .agg #[.int .i64 ((p : Int) + 1), .int .i64 (x.trim : Int), .bool x.sealed]) (keyOf_i (by omega))
  have h5 : SPic w4 FD G S D X Y fx (updF fy (kI l) (some (logV ⟨max x.tail (p + 1), x.trim, x.sealed⟩))) A (s.setLog l ⟨max x.tail (p + 1), x.trim, x.sealed⟩) := by
    have e : logV ⟨max x.tail (p + 1), x.trim, x.sealed⟩ = .agg #[.int .i64 ((p : Int) + 1), .int .i64 (x.trim : Int), .bool x.sealed] := by
      unfold logV
      have e2 : ((max x.tail (p + 1) : Nat) : Int) = ((p : Int) + 1) := by have := hmx; omega
      simp only [e2]
    rw [← e] at hm4
    exact h4.setY hc4 hm4 hn hl (by have := hlog; simp only; omega)
  have hYl := h.lt Y h.mY
  have k1 : w4.heap[w.heap.size]? = some (.cells #[.int .i64 (l : Int), .int .i64 (p : Int)] TSl (0, 0)) := (hc4.block w.heap.size (by simp; omega) (by simp; omega)).trans ((Below.heap_alloc _ _ _ (by simp)).trans (heap_alloc_last w _))
  have k2 : w4.heap[w.heap.size + 1]? = some (.cells #[.int .i64 ((p : Int) + 1), .int .i64 (x.trim : Int), .bool x.sealed] 96 (0, 0)) := by
    refine (hc4.block (w.heap.size + 1) (by simp) (by simp; omega)).trans ?_
    have := heap_alloc_last (w.alloc (.cells #[.int .i64 (l : Int), .int .i64 (p : Int)] TSl)) (.cells #[.int .i64 ((p : Int) + 1), .int .i64 (x.trim : Int), .bool x.sealed] 96)
    rw [World.size_alloc] at this
    exact this
  have s0 : w4.cell? ⟨w.heap.size, 0, none⟩ = some (.int .i64 (l : Int)) := cell_of_row _ _ _ _ _ _ k1
  have s1 : w4.cell? ⟨w.heap.size, 1, none⟩ = some (.int .i64 (p : Int)) := cell_of_row _ _ _ _ _ _ k1
  have s3 : w4.cell? ⟨w.heap.size + 1, 1, none⟩ = some (.int .i64 (x.trim : Int)) := cell_of_row _ _ _ _ _ _ k2
  obtain ⟨-, d1, -⟩ := h5.cells
  have hlx := (h5.below (Below.refl _ _).drew).lookX l p hl hp
  have hcw : Chg [X, Y] w w4 := (Chg.of bw).trans hc4 (fun k hk => Or.inl (by simp at hk; simp [hk]))
  have hbH1 : ∀ g ∈ dB ad, g < w4.heap.size := fun g hg => Nat.lt_of_lt_of_le (hb g hg).1 hcw.size
  have hsf : s.fill l p data = (s.setLog l ⟨max x.tail (p + 1), x.trim, x.sealed⟩).setSlot l p (some data) := by unfold SSt.fill; rw [hxl, if_pos (by exact hsl)]
  have hdl : data.length = len := hda.1
  have hd4 : Part.ok w4 ⟨ad, data.length, cap, data⟩ := by
    rw [hdl]
    obtain ⟨es, c, hmp⟩ := h4.hY.isMap
    exact part_map (hda.later bw) hmp hc4
  have h6 := (h5.more (dB ad) hbH1 (fun g hg => (hb g hg).2)).below ((Below.refl _ w4).drew.drew)
  have hx4 : MapF w4.drew.drew TSl X n fx := hx.keep ((hc4.block X (by simp; have := h.lt X h.mX; omega) (by simpa using h.ne)).trans (bw.block X (h.lt X h.mX)))
  obtain ⟨w5, hst5, hm5, hc5⟩ := hx4.store (t := 52) keySl Tryz.underlying52 (by have := h.num_le; unfold maxLen; omega) (key := slotV l p) (val := .slice ad data.length cap) (keyOf_s (by omega) (by omega))
  have h7 := h6.setX hc5 hm5 hn hl hp hlen (hd4.later ((Below.refl _ w4).drew.drew)) (fun b off e _ => List.mem_append_left _ (by rw [e]; simp [dB]))
  rw [hdl] at hst5
  unfold slotV at hst5
  have HF : Hid (∃ fx' fy' A', SPic w5 FD (dB ad ++ G) S D X Y fx' fy' A' (s.fill l p data) ∧ Chg [X, Y] w w5) := ⟨_, _, _, by rw [hsf]; exact h7, (hcw.trans (Chg.of (F := [X, Y]) ((Below.refl _ w4).drew.drew)) (fun k hk => Or.inl hk)).trans hc5 (fun k hk => Or.inl (by simp at hk; simp [hk]))⟩
  have HS := hide hsl
  rw [show (s.setLog l ⟨max x.tail (p + 1), x.trim, x.sealed⟩).slots l p = none from hsl.1] at hlx; simp only [Option.map_none, Option.getD_none, Option.isSome_none] at hlx; have hge := hsl.2
  clear h h1 h1d h2 b1 hy hx bw h4 hm4 hc4 h5 k1 k2 hb hda hcw hsl hxl hx0 hlog hbH1 hsf hYl h6 hx4 hm5 hc5 h7 hd4 hdl
  unfold slotV
  go_enter Tryz.func126, Tryz.ntmps126
  go_wp2
  apply once
  case main =>
    intro hm
    go_region_law (fail)
    all_goals exact hm
  clear hlk hlk2
  go_wp2
  apply once
  case main =>
    intro hm
    go_region_law (fail)
    all_goals exact hm
  clear hst
  go_wp2
  apply once
  case main =>
    intro hm
    go_region_law (fail)
    all_goals exact hm
  go_wp2
  apply once
  case main =>
    intro hm
    go_region_law (fail)
    all_goals exact hm
  go_wp2
  exact bodyPost_end (results_none rfl _ _ _) rfl ⟨rfl, HF.out⟩
set_option maxRecDepth 100000 in
set_option maxHeartbeats 1000000 in
theorem fill_b1 (h : SPic w FD G S D X Y fx fy A s) (n : Nat) (hn : n + 1 ≤ s.num) (_ : MapF w TSl X n fx) (hy : MapF w 3 Y n fy) (l p : Nat) (hl : l < 281474976710656) (hp : p < 4096) (ad : Option Addr) (len cap : Nat) (data : List Nat) (_ : Part.ok w ⟨ad, len, cap, data⟩) (_ : data.length ≤ 65536) (hb : ∀ g ∈ dB ad, g < w.heap.size ∧ g ∉ FD)
    (hmx : p + 1 ≤ (s.log l).tail) (hsl : s.slots l p ≠ none) :
    Calls Tryz.prog 126 #[.pointer (some ⟨S, 0, none⟩), slotV l p, .slice ad len cap] w fun e w' => e = .returned (.tuple #[]) ∧ ∃ fx' fy' A', SPic w' FD (dB ad ++ G) S D X Y fx' fy' A' (s.fill l p data) ∧ Chg [X, Y] w w' := by
  have hlog := h.ok.log l
  have hmx2 : (p : Int) + 1 ≤ ((s.log l).tail : Int) := by have := hmx; omega
  obtain ⟨x, hx0⟩ : ∃ x, s.look (l : Int) = x := ⟨_, rfl⟩
  have hxl : s.log l = x := by rw [← hx0, look_nat]
  rw [hxl] at hmx hlog hmx2
  have b1 : Below w.heap.size w (w.alloc (.cells #[.int .i64 (l : Int), .int .i64 (p : Int)] TSl)) := (Below.refl _ w).alloc (Nat.le_refl _) _
  have h1 := h.below b1
  have h1d := h1.below (Below.refl _ _).drew
  have h2 := (h1.below ((Below.refl _ _).alloc (Nat.le_refl _) (.cells #[.int .i64 0, .int .i64 0, .bool false] 96))).below (Below.refl _ _).drew
  have hlk := h1d.lookY (l : Int) (by omega) (by omega)
  have hlk2 := h2.lookY (l : Int) (by omega) (by omega)
  rw [hx0] at hlk hlk2
  unfold logV at hlk hlk2
  obtain ⟨-, -, c2, -⟩ := h.cells
  obtain ⟨-, -, c2', -⟩ := h1.cells
  have hS := h.ltS
  have bw : Below w.heap.size w (((w.alloc (.cells #[.int .i64 (l : Int), .int .i64 (p : Int)] TSl)).alloc (.cells #[.int .i64 (x.tail : Int), .int .i64 (x.trim : Int), .bool x.sealed] 96)).drew).drew := ((b1.alloc (by simp) _).drew).drew
  have h4 := h.below bw
  obtain ⟨w4, hst, hm4, hc4⟩ := (hy.keep (bw.block Y (h.lt Y h.mY))).store (t := 53) keyI Tryz.underlying53 (by have := h.num_le; unfold maxLen; omega) (key := .int .i64 (l : Int)) (val := .agg #[.int .i64 (x.tail : Int), .int .i64 (x.trim : Int), .bool x.sealed]) (keyOf_i (by omega))
  have h5 : SPic w4 FD G S D X Y fx (updF fy (kI l) (some (logV ⟨max x.tail (p + 1), x.trim, x.sealed⟩))) A (s.setLog l ⟨max x.tail (p + 1), x.trim, x.sealed⟩) := by
    have e : logV ⟨max x.tail (p + 1), x.trim, x.sealed⟩ = .agg #[.int .i64 (x.tail : Int), .int .i64 (x.trim : Int), .bool x.sealed] := by
      unfold logV
      have e2 : ((max x.tail (p + 1) : Nat) : Int) = (x.tail : Int) := by have := hmx; omega
      simp only [e2]
    rw [← e] at hm4
    exact h4.setY hc4 hm4 hn hl (by have := hlog; simp only; omega)
  have hYl := h.lt Y h.mY
  have k1 : w4.heap[w.heap.size]? = some (.cells #[.int .i64 (l : Int), .int .i64 (p : Int)] TSl (0, 0)) := (hc4.block w.heap.size (by simp; omega) (by simp; omega)).trans ((Below.heap_alloc _ _ _ (by simp)).trans (heap_alloc_last w _))
  have k2 : w4.heap[w.heap.size + 1]? = some (.cells #[.int .i64 (x.tail : Int), .int .i64 (x.trim : Int), .bool x.sealed] 96 (0, 0)) := by
    refine (hc4.block (w.heap.size + 1) (by simp) (by simp; omega)).trans ?_
    have := heap_alloc_last (w.alloc (.cells #[.int .i64 (l : Int), .int .i64 (p : Int)] TSl)) (.cells #[.int .i64 (x.tail : Int), .int .i64 (x.trim : Int), .bool x.sealed] 96)
    rw [World.size_alloc] at this
    exact this
  have s0 : w4.cell? ⟨w.heap.size, 0, none⟩ = some (.int .i64 (l : Int)) := cell_of_row _ _ _ _ _ _ k1
  have s1 : w4.cell? ⟨w.heap.size, 1, none⟩ = some (.int .i64 (p : Int)) := cell_of_row _ _ _ _ _ _ k1
  have s3 : w4.cell? ⟨w.heap.size + 1, 1, none⟩ = some (.int .i64 (x.trim : Int)) := cell_of_row _ _ _ _ _ _ k2
  obtain ⟨-, d1, -⟩ := h5.cells
  have hlx := (h5.below (Below.refl _ _).drew).lookX l p hl hp
  have hcw : Chg [X, Y] w w4 := (Chg.of bw).trans hc4 (fun k hk => Or.inl (by simp at hk; simp [hk]))
  have hbH1 : ∀ g ∈ dB ad, g < w4.heap.size := fun g hg => Nat.lt_of_lt_of_le (hb g hg).1 hcw.size
  have hsf : s.fill l p data = s.setLog l ⟨max x.tail (p + 1), x.trim, x.sealed⟩ := by unfold SSt.fill; rw [hxl, if_neg (by exact fun e => hsl e.1)]
  have HF := hide (fun m : Nat => (⟨_, _, _, by rw [hsf]; exact (h5.more (dB ad) hbH1 (fun g hg => (hb g hg).2)).below (below_drewN' (Below.refl _ _) m), hcw.trans (Chg.of (F := [X, Y]) (below_drewN' (Below.refl _ w4) m)) (fun k hk => Or.inl hk)⟩ : ∃ fx' fy' A', SPic (w4.drewN m) FD (dB ad ++ G) S D X Y fx' fy' A' (s.fill l p data) ∧ Chg [X, Y] w (w4.drewN m)))
  have HS := hide hsl
  obtain ⟨d0, hd0⟩ := Option.ne_none_iff_exists'.1 hsl; rw [show (s.setLog l ⟨max x.tail (p + 1), x.trim, x.sealed⟩).slots l p = some d0 from hd0] at hlx; clear hd0; simp only [Option.map_some, Option.getD_some, Option.isSome_some] at hlx
  clear h h1 h1d h2 b1 hy bw h4 hm4 hc4 h5 k1 k2 hb hcw hsl hxl hx0 hlog hbH1 hsf hYl
  unfold slotV
  go_enter Tryz.func126, Tryz.ntmps126
  go_wp2
  apply once
  case main =>
    intro hm
    go_region_law (fail)
    all_goals exact hm
  clear hlk hlk2
  go_wp2
  apply once
  case main =>
    intro hm
    go_region_law (fail)
    all_goals exact hm
  clear hst
  go_wp2
  apply once
  case main =>
    intro hm
    go_region_law (fail)
    all_goals exact hm
  go_wp2
  exact bodyPost_end (results_none rfl _ _ _) rfl ⟨rfl, HF.out 1⟩
set_option maxRecDepth 100000 in
set_option maxHeartbeats 1000000 in
theorem fill_b2 (h : SPic w FD G S D X Y fx fy A s) (n : Nat) (hn : n + 1 ≤ s.num) (_ : MapF w TSl X n fx) (hy : MapF w 3 Y n fy) (l p : Nat) (hl : l < 281474976710656) (hp : p < 4096) (ad : Option Addr) (len cap : Nat) (data : List Nat) (_ : Part.ok w ⟨ad, len, cap, data⟩) (_ : data.length ≤ 65536) (hb : ∀ g ∈ dB ad, g < w.heap.size ∧ g ∉ FD)
    (hmx : p + 1 ≤ (s.log l).tail) (hsl : s.slots l p = none ∧ p < (s.log l).trim) :
    Calls Tryz.prog 126 #[.pointer (some ⟨S, 0, none⟩), slotV l p, .slice ad len cap] w fun e w' => e = .returned (.tuple #[]) ∧ ∃ fx' fy' A', SPic w' FD (dB ad ++ G) S D X Y fx' fy' A' (s.fill l p data) ∧ Chg [X, Y] w w' := by
  have hlog := h.ok.log l
  have hmx2 : (p : Int) + 1 ≤ ((s.log l).tail : Int) := by have := hmx; omega
  obtain ⟨x, hx0⟩ : ∃ x, s.look (l : Int) = x := ⟨_, rfl⟩
  have hxl : s.log l = x := by rw [← hx0, look_nat]
  rw [hxl] at hmx hlog hmx2 hsl
  have b1 : Below w.heap.size w (w.alloc (.cells #[.int .i64 (l : Int), .int .i64 (p : Int)] TSl)) := (Below.refl _ w).alloc (Nat.le_refl _) _
  have h1 := h.below b1
  have h1d := h1.below (Below.refl _ _).drew
  have h2 := (h1.below ((Below.refl _ _).alloc (Nat.le_refl _) (.cells #[.int .i64 0, .int .i64 0, .bool false] 96))).below (Below.refl _ _).drew
  have hlk := h1d.lookY (l : Int) (by omega) (by omega)
  have hlk2 := h2.lookY (l : Int) (by omega) (by omega)
  rw [hx0] at hlk hlk2
  unfold logV at hlk hlk2
  obtain ⟨-, -, c2, -⟩ := h.cells
  obtain ⟨-, -, c2', -⟩ := h1.cells
  have hS := h.ltS
  have bw : Below w.heap.size w (((w.alloc (.cells #[.int .i64 (l : Int), .int .i64 (p : Int)] TSl)).alloc (.cells #[.int .i64 (x.tail : Int), .int .i64 (x.trim : Int), .bool x.sealed] 96)).drew).drew := ((b1.alloc (by simp) _).drew).drew
  have h4 := h.below bw
  obtain ⟨w4, hst, hm4, hc4⟩ := (hy.keep (bw.block Y (h.lt Y h.mY))).store (t := 53) keyI Tryz.underlying53 (by have := h.num_le; unfold maxLen; omega) (key := .int .i64 (l : Int)) (val := .agg #[.int .i64 (x.tail : Int), .int .i64 (x.trim : Int), .bool x.sealed]) (keyOf_i (by omega))
  have h5 : SPic w4 FD G S D X Y fx (updF fy (kI l) (some (logV ⟨max x.tail (p + 1), x.trim, x.sealed⟩))) A (s.setLog l ⟨max x.tail (p + 1), x.trim, x.sealed⟩) := by
    have e : logV ⟨max x.tail (p + 1), x.trim, x.sealed⟩ = .agg #[.int .i64 (x.tail : Int), .int .i64 (x.trim : Int), .bool x.sealed] := by
      unfold logV
      have e2 : ((max x.tail (p + 1) : Nat) : Int) = (x.tail : Int) := by have := hmx; omega
      simp only [e2]
    rw [← e] at hm4
    exact h4.setY hc4 hm4 hn hl (by have := hlog; simp only; omega)
  have hYl := h.lt Y h.mY
  have k1 : w4.heap[w.heap.size]? = some (.cells #[.int .i64 (l : Int), .int .i64 (p : Int)] TSl (0, 0)) := (hc4.block w.heap.size (by simp; omega) (by simp; omega)).trans ((Below.heap_alloc _ _ _ (by simp)).trans (heap_alloc_last w _))
  have k2 : w4.heap[w.heap.size + 1]? = some (.cells #[.int .i64 (x.tail : Int), .int .i64 (x.trim : Int), .bool x.sealed] 96 (0, 0)) := by
    refine (hc4.block (w.heap.size + 1) (by simp) (by simp; omega)).trans ?_
    have := heap_alloc_last (w.alloc (.cells #[.int .i64 (l : Int), .int .i64 (p : Int)] TSl)) (.cells #[.int .i64 (x.tail : Int), .int .i64 (x.trim : Int), .bool x.sealed] 96)
    rw [World.size_alloc] at this
    exact this
  have s0 : w4.cell? ⟨w.heap.size, 0, none⟩ = some (.int .i64 (l : Int)) := cell_of_row _ _ _ _ _ _ k1
  have s1 : w4.cell? ⟨w.heap.size, 1, none⟩ = some (.int .i64 (p : Int)) := cell_of_row _ _ _ _ _ _ k1
  have s3 : w4.cell? ⟨w.heap.size + 1, 1, none⟩ = some (.int .i64 (x.trim : Int)) := cell_of_row _ _ _ _ _ _ k2
  obtain ⟨-, d1, -⟩ := h5.cells
  have hlx := (h5.below (Below.refl _ _).drew).lookX l p hl hp
  have hcw : Chg [X, Y] w w4 := (Chg.of bw).trans hc4 (fun k hk => Or.inl (by simp at hk; simp [hk]))
  have hbH1 : ∀ g ∈ dB ad, g < w4.heap.size := fun g hg => Nat.lt_of_lt_of_le (hb g hg).1 hcw.size
  have hsf : s.fill l p data = s.setLog l ⟨max x.tail (p + 1), x.trim, x.sealed⟩ := by unfold SSt.fill; rw [hxl, if_neg (by omega)]
  have HF := hide (fun m : Nat => (⟨_, _, _, by rw [hsf]; exact (h5.more (dB ad) hbH1 (fun g hg => (hb g hg).2)).below (below_drewN' (Below.refl _ _) m), hcw.trans (Chg.of (F := [X, Y]) (below_drewN' (Below.refl _ w4) m)) (fun k hk => Or.inl hk)⟩ : ∃ fx' fy' A', SPic (w4.drewN m) FD (dB ad ++ G) S D X Y fx' fy' A' (s.fill l p data) ∧ Chg [X, Y] w (w4.drewN m)))
  have HS := hide hsl
  rw [show (s.setLog l ⟨max x.tail (p + 1), x.trim, x.sealed⟩).slots l p = none from hsl.1] at hlx; simp only [Option.map_none, Option.getD_none, Option.isSome_none] at hlx; have hge := hsl.2
  clear h h1 h1d h2 b1 hy bw h4 hm4 hc4 h5 k1 k2 hb hcw hsl hxl hx0 hlog hbH1 hsf hYl
  unfold slotV
  go_enter Tryz.func126, Tryz.ntmps126
  go_wp2
  apply once
  case main =>
    intro hm
    go_region_law (fail)
    all_goals exact hm
  clear hlk hlk2
  go_wp2
  apply once
  case main =>
    intro hm
    go_region_law (fail)
    all_goals exact hm
  clear hst
  go_wp2
  apply once
  case main =>
    intro hm
    go_region_law (fail)
    all_goals exact hm
  go_wp2
  exact bodyPost_end (results_none rfl _ _ _) rfl ⟨rfl, HF.out 1⟩
set_option maxRecDepth 100000 in
set_option maxHeartbeats 1000000 in
theorem fill_b3 (h : SPic w FD G S D X Y fx fy A s) (n : Nat) (hn : n + 1 ≤ s.num) (hx : MapF w TSl X n fx) (hy : MapF w 3 Y n fy) (l p : Nat) (hl : l < 281474976710656) (hp : p < 4096) (ad : Option Addr) (len cap : Nat) (data : List Nat) (hda : Part.ok w ⟨ad, len, cap, data⟩) (hlen : data.length ≤ 65536) (hb : ∀ g ∈ dB ad, g < w.heap.size ∧ g ∉ FD)
    (hmx : p + 1 ≤ (s.log l).tail) (hsl : s.slots l p = none ∧ (s.log l).trim ≤ p) :
    Calls Tryz.prog 126 #[.pointer (some ⟨S, 0, none⟩), slotV l p, .slice ad len cap] w fun e w' => e = .returned (.tuple #[]) ∧ ∃ fx' fy' A', SPic w' FD (dB ad ++ G) S D X Y fx' fy' A' (s.fill l p data) ∧ Chg [X, Y] w w' := by
  have hlog := h.ok.log l
  have hmx2 : (p : Int) + 1 ≤ ((s.log l).tail : Int) := by have := hmx; omega
  obtain ⟨x, hx0⟩ : ∃ x, s.look (l : Int) = x := ⟨_, rfl⟩
  have hxl : s.log l = x := by rw [← hx0, look_nat]
  rw [hxl] at hmx hlog hmx2 hsl
  have b1 : Below w.heap.size w (w.alloc (.cells #[.int .i64 (l : Int), .int .i64 (p : Int)] TSl)) := (Below.refl _ w).alloc (Nat.le_refl _) _
  have h1 := h.below b1
  have h1d := h1.below (Below.refl _ _).drew
  have h2 := (h1.below ((Below.refl _ _).alloc (Nat.le_refl _) (.cells #[.int .i64 0, .int .i64 0, .bool false] 96))).below (Below.refl _ _).drew
  have hlk := h1d.lookY (l : Int) (by omega) (by omega)
  have hlk2 := h2.lookY (l : Int) (by omega) (by omega)
  rw [hx0] at hlk hlk2
  unfold logV at hlk hlk2
  obtain ⟨-, -, c2, -⟩ := h.cells
  obtain ⟨-, -, c2', -⟩ := h1.cells
  have hS := h.ltS
  have bw : Below w.heap.size w (((w.alloc (.cells #[.int .i64 (l : Int), .int .i64 (p : Int)] TSl)).alloc (.cells #[.int .i64 (x.tail : Int), .int .i64 (x.trim : Int), .bool x.sealed] 96)).drew).drew := ((b1.alloc (by simp) _).drew).drew
  have h4 := h.below bw
  obtain ⟨w4, hst, hm4, hc4⟩ := (hy.keep (bw.block Y (h.lt Y h.mY))).store (t := 53) keyI Tryz.underlying53 (by have := h.num_le; unfold maxLen; omega) (key := .int .i64 (l : Int)) (val := .agg #[.int .i64 (x.tail : Int), .int .i64 (x.trim : Int), .bool x.sealed]) (keyOf_i (by omega))
  have h5 : SPic w4 FD G S D X Y fx (updF fy (kI l) (some (logV ⟨max x.tail (p + 1), x.trim, x.sealed⟩))) A (s.setLog l ⟨max x.tail (p + 1), x.trim, x.sealed⟩) := by
    have e : logV ⟨max x.tail (p + 1), x.trim, x.sealed⟩ = .agg #[.int .i64 (x.tail : Int), .int .i64 (x.trim : Int), .bool x.sealed] := by
      unfold logV
      have e2 : ((max x.tail (p + 1) : Nat) : Int) = (x.tail : Int) := by have := hmx; omega
      simp only [e2]
    rw [← e] at hm4
    exact h4.setY hc4 hm4 hn hl (by have := hlog; simp only; omega)
  have hYl := h.lt Y h.mY
  have k1 : w4.heap[w.heap.size]? = some (.cells #[.int .i64 (l : Int), .int .i64 (p : Int)] TSl (0, 0)) := (hc4.block w.heap.size (by simp; omega) (by simp; omega)).trans ((Below.heap_alloc _ _ _ (by simp)).trans (heap_alloc_last w _))
  have k2 : w4.heap[w.heap.size + 1]? = some (.cells #[.int .i64 (x.tail : Int), .int .i64 (x.trim : Int), .bool x.sealed] 96 (0, 0)) := by
    refine (hc4.block (w.heap.size + 1) (by simp) (by simp; omega)).trans ?_
    have := heap_alloc_last (w.alloc (.cells #[.int .i64 (l : Int), .int .i64 (p : Int)] TSl)) (.cells #[.int .i64 (x.tail : Int), .int .i64 (x.trim : Int), .bool x.sealed] 96)
    rw [World.size_alloc] at this
    exact this
  have s0 : w4.cell? ⟨w.heap.size, 0, none⟩ = some (.int .i64 (l : Int)) := cell_of_row _ _ _ _ _ _ k1
  have s1 : w4.cell? ⟨w.heap.size, 1, none⟩ = some (.int .i64 (p : Int)) := cell_of_row _ _ _ _ _ _ k1
  have s3 : w4.cell? ⟨w.heap.size + 1, 1, none⟩ = some (.int .i64 (x.trim : Int)) := cell_of_row _ _ _ _ _ _ k2
  obtain ⟨-, d1, -⟩ := h5.cells
  have hlx := (h5.below (Below.refl _ _).drew).lookX l p hl hp
  have hcw : Chg [X, Y] w w4 := (Chg.of bw).trans hc4 (fun k hk => Or.inl (by simp at hk; simp [hk]))
  have hbH1 : ∀ g ∈ dB ad, g < w4.heap.size := fun g hg => Nat.lt_of_lt_of_le (hb g hg).1 hcw.size
  have hsf : s.fill l p data = (s.setLog l ⟨max x.tail (p + 1), x.trim, x.sealed⟩).setSlot l p (some data) := by unfold SSt.fill; rw [hxl, if_pos (by exact hsl)]
  have hdl : data.length = len := hda.1
  have hd4 : Part.ok w4 ⟨ad, data.length, cap, data⟩ := by
    rw [hdl]
    obtain ⟨es, c, hmp⟩ := h4.hY.isMap
    exact part_map (hda.later bw) hmp hc4
  have h6 := (h5.more (dB ad) hbH1 (fun g hg => (hb g hg).2)).below ((Below.refl _ w4).drew.drew)
  have hx4 : MapF w4.drew.drew TSl X n fx := hx.keep ((hc4.block X (by simp; have := h.lt X h.mX; omega) (by simpa using h.ne)).trans (bw.block X (h.lt X h.mX)))
  obtain ⟨w5, hst5, hm5, hc5⟩ := hx4.store (t := 52) keySl Tryz.underlying52 (by have := h.num_le; unfold maxLen; omega) (key := slotV l p) (val := .slice ad data.length cap) (keyOf_s (by omega) (by omega))
  have h7 := h6.setX hc5 hm5 hn hl hp hlen (hd4.later ((Below.refl _ w4).drew.drew)) (fun b off e _ => List.mem_append_left _ (by rw [e]; simp [dB]))
  rw [hdl] at hst5
  unfold slotV at hst5
  have HF : Hid (∃ fx' fy' A', SPic w5 FD (dB ad ++ G) S D X Y fx' fy' A' (s.fill l p data) ∧ Chg [X, Y] w w5) := ⟨_, _, _, by rw [hsf]; exact h7, (hcw.trans (Chg.of (F := [X, Y]) ((Below.refl _ w4).drew.drew)) (fun k hk => Or.inl hk)).trans hc5 (fun k hk => Or.inl (by simp at hk; simp [hk]))⟩
  have HS := hide hsl
  rw [show (s.setLog l ⟨max x.tail (p + 1), x.trim, x.sealed⟩).slots l p = none from hsl.1] at hlx; simp only [Option.map_none, Option.getD_none, Option.isSome_none] at hlx; have hge := hsl.2
  clear h h1 h1d h2 b1 hy hx bw h4 hm4 hc4 h5 k1 k2 hb hda hcw hsl hxl hx0 hlog hbH1 hsf hYl h6 hx4 hm5 hc5 h7 hd4 hdl
  unfold slotV
  go_enter Tryz.func126, Tryz.ntmps126
  go_wp2
  apply once
  case main =>
    intro hm
    go_region_law (fail)
    all_goals exact hm
  clear hlk hlk2
  go_wp2
  apply once
  case main =>
    intro hm
    go_region_law (fail)
    all_goals exact hm
  clear hst
  go_wp2
  apply once
  case main =>
    intro hm
    go_region_law (fail)
    all_goals exact hm
  go_wp2
  apply once
  case main =>
    intro hm
    go_region_law (fail)
    all_goals exact hm
  go_wp2
  exact bodyPost_end (results_none rfl _ _ _) rfl ⟨rfl, HF.out⟩
/-- fill. -/
theorem fill_pic (h : SPic w FD G S D X Y fx fy A s) (n : Nat) (hn : n + 1 ≤ s.num) (hx : MapF w TSl X n fx) (hy : MapF w 3 Y n fy) (l p : Nat) (hl : l < 281474976710656) (hp : p < 4096) (ad : Option Addr) (len cap : Nat) (data : List Nat) (hda : Part.ok w ⟨ad, len, cap, data⟩) (hlen : data.length ≤ 65536) (hb : ∀ g ∈ dB ad, g < w.heap.size ∧ g ∉ FD) :
    Calls Tryz.prog 126 #[.pointer (some ⟨S, 0, none⟩), slotV l p, .slice ad len cap] w fun e w' => e = .returned (.tuple #[]) ∧ ∃ fx' fy' A', SPic w' FD (dB ad ++ G) S D X Y fx' fy' A' (s.fill l p data) ∧ Chg [X, Y] w w' := by
  by_cases h1 : (s.log l).tail < p + 1
  · by_cases h2 : s.slots l p = none
    · by_cases h3 : (s.log l).trim ≤ p
      · exact fill_a3 h n hn hx hy l p hl hp ad len cap data hda hlen hb h1 ⟨h2, h3⟩
      · exact fill_a2 h n hn hx hy l p hl hp ad len cap data hda hlen hb h1 ⟨h2, by omega⟩
    · exact fill_a1 h n hn hx hy l p hl hp ad len cap data hda hlen hb h1 h2
  · by_cases h2 : s.slots l p = none
    · by_cases h3 : (s.log l).trim ≤ p
      · exact fill_b3 h n hn hx hy l p hl hp ad len cap data hda hlen hb (by omega) ⟨h2, h3⟩
      · exact fill_b2 h n hn hx hy l p hl hp ad len cap data hda hlen hb (by omega) ⟨h2, by omega⟩
    · exact fill_b1 h n hn hx hy l p hl hp ad len cap data hda hlen hb (by omega) h2
end Go.Proofs.YtikomnbhmmjfnaaGreat

/- giveUp of package store: what an entry of that kind does. -/
namespace Go.Proofs.YtikomnbhmmjfnaaGreat
open Go.RowKit
variable {w w' : World} {FD G : List Nat} {S D X Y : Nat} {fx fy : Lit → Option Value} {A : Nat → Nat → Value} {s : SSt}

theorem MapF.dropT {T t e : TypeId} {M n : Nat} {f : Lit → Option Value} (h : MapF w T M n f) (K : Maps.Keyed Tryz.prog T) (ht : Tryz.prog.underlying t = some (.map T e)) {key : Value} {kl : Lit} (hkey : keyOf Tryz.prog T key = some kl) :
    ∃ w', (∀ ty, (Builtin.delete_ #[t, T] ty #[.map (some M), key]).run Tryz.prog w = .ok (.tuple #[]) w') ∧ MapF w' T M n (updF f kl none) ∧ Chg [M] w w' := by
  obtain ⟨w', h1, h2, h3⟩ := h.drop K ht hkey 0
  exact ⟨w', fun ty => h1, h2, h3⟩
/-- The slots of a loglet from its trim point on, up to k, are given up. -/
def SSt.cutTo (s : SSt) (l k : Nat) : SSt := { s with slots := fun i q => if i = l ∧ (s.log l).trim ≤ q ∧ q < k then none else s.slots i q }
theorem cutTo_start (s : SSt) (l : Nat) : s.cutTo l (s.log l).trim = s := by
  unfold SSt.cutTo
  have : (fun i q => if i = l ∧ (s.log l).trim ≤ q ∧ q < (s.log l).trim then none else s.slots i q) = s.slots := by
    funext i q
    rw [if_neg (by omega)]
  rw [this]
theorem cutTo_step (s : SSt) (l k : Nat) (hk : (s.log l).trim ≤ k) : (s.cutTo l k).setSlot l k none = s.cutTo l (k + 1) := by
  unfold SSt.cutTo SSt.setSlot
  have : (fun i q => if i = l ∧ q = k then none else if i = l ∧ (s.log l).trim ≤ q ∧ q < k then none else s.slots i q) = (fun i q => if i = l ∧ (s.log l).trim ≤ q ∧ q < k + 1 then none else s.slots i q) := by
    funext i q
    by_cases h1 : i = l ∧ q = k
    · rw [if_pos h1, if_pos (by omega)]
    · rw [if_neg h1]
      by_cases h2 : i = l ∧ (s.log l).trim ≤ q ∧ q < k
      · rw [if_pos h2, if_pos (by omega)]
      · rw [if_neg h2, if_neg (by omega)]
  simp only [this]
theorem cutTo_end (s : SSt) (l p k : Nat) (h : k = p ∨ (k = (s.log l).trim ∧ p ≤ (s.log l).trim)) : (s.cutTo l k).setLog l ⟨max (s.log l).tail p, max (s.log l).trim p, (s.log l).sealed⟩ = s.giveUp l p := by
  unfold SSt.cutTo SSt.setLog SSt.giveUp
  have : (fun i q => if i = l ∧ (s.log l).trim ≤ q ∧ q < k then none else s.slots i q) = (fun i q => if i = l ∧ (s.log l).trim ≤ q ∧ q < p then none else s.slots i q) := by
    funext i q
    by_cases h2 : i = l ∧ (s.log l).trim ≤ q ∧ q < k
    · rw [if_pos h2, if_pos (by omega)]
    · rw [if_neg h2, if_neg (by omega)]
  simp only [this]
  rfl
/-- Behind a delete from the map of slots. -/
theorem SPic.delX (h : SPic w FD G S D X Y fx fy A s) (hc : Chg [X] w w') {n l p : Nat} (hm : MapF w' TSl X n (updF fx (kS l p) none)) (hn : n ≤ s.num) (hl : l < 281474976710656) (hp : p < 4096) : SPic w' FD G S D X Y (updF fx (kS l p) none) fy A (s.setSlot l p none) := by
  have hk : ∀ g ∈ G, g ≠ X → w'.heap[g]? = w.heap[g]? := fun g hg hne => hc.block g (h.lt g hg) (by simpa using hne)
  have hdk : ∀ g ∈ FD, w'.heap[g]? = w.heap[g]? := fun g hg => hc.block g (h.disk.lt g hg) (by simp; intro e; subst e; exact h.apart _ h.mX hg)
  obtain ⟨es, c, hx⟩ := h.hX.isMap
  refine ⟨⟨fun i q e he => ?_, h.ok.logs, h.ok.num, h.ok.fin⟩, h.disk.keep hdk hc.size, (hk S h.mS h.neS.1).trans h.hS, hm.mono hn, h.hY.keep (hk Y h.mY h.ne.symm), fun i q hi hq => ?_, fun i q e he => ?_, h.getY, h.supY, h.mS, h.mX, h.mY, h.ne, h.apart, fun g hg => Nat.lt_of_lt_of_le (h.lt g hg) hc.size⟩
  · simp only [SSt.setSlot] at he
    split at he
    · cases he
    · exact h.ok.slots i q e he
  · by_cases e : i = l ∧ q = p
    · obtain ⟨rfl, rfl⟩ := e; rw [updF_same]; simp [SSt.setSlot]
    · rw [updF_other _ (fun e2 => e (kS_inj (by omega) (by omega) (by omega) (by omega) e2)), h.getX i q hi hq]; simp [SSt.setSlot, e]
  · simp only [SSt.setSlot] at he
    split at he
    · cases he
    · obtain ⟨ad', cap', e2, hp', hg⟩ := h.dat i q e he
      exact ⟨ad', cap', e2, part_map hp' hx hc, hg⟩
/-- What the loop of giveUp has at place k. -/
structure GI (w W1 wr : World) (FD G : List Nat) (S D X Y : Nat) (fy : Lit → Option Value) (A : Nat → Nat → Value) (s : SSt) (l k n : Nat) : Prop where
  pic : ∃ fx', SPic wr FD G S D X Y fx' fy A (s.cutTo l k) ∧ MapF wr TSl X n fx'
  chg : Chg [X] W1 wr
theorem GI.step {W1 wr : World} {l k n : Nat} (h : GI w W1 wr FD G S D X Y fy A s l k n) (hl : l < 281474976710656) (hk : k < 4096) (ht : (s.log l).trim ≤ k) (hn : n ≤ s.num) :
    ∃ w4, (∀ ty, (Builtin.delete_ #[52, TSl] ty #[.map (some X), .agg #[.int .i64 (l : Int), .int .i64 (k : Int)]]).run Tryz.prog wr.drew = .ok (.tuple #[]) w4) ∧ GI w W1 w4 FD G S D X Y fy A s l (k + 1) n := by
  obtain ⟨⟨fx', hp, hx⟩, hc⟩ := h
  have hd := hp.below (Below.refl _ _).drew
  obtain ⟨w4, h1, h2, h3⟩ := (hx.keep (w' := wr.drew) rfl).dropT keySl Tryz.underlying52 (keyOf_s (l := l) (p := k) (by omega) (by omega))
  refine ⟨w4, h1, ⟨⟨_, ?_, h2⟩, (hc.trans (Chg.of (F := []) (Below.refl _ _).drew) (fun k hk => by cases hk)).trans h3 (fun k hk => Or.inl hk)⟩⟩
  have q := hd.delX h3 h2 hn hl hk
  rw [cutTo_step s l k ht] at q
  exact q
set_option maxRecDepth 100000 in
set_option maxHeartbeats 2000000 in
theorem giveUp_pic (h : SPic w FD G S D X Y fx fy A s) (n : Nat) (hn : n + 1 ≤ s.num) (hx : MapF w TSl X n fx) (hy : MapF w 3 Y n fy) (l p : Nat) (hl : l < 281474976710656) (hp : p ≤ 4096) (v : Option Addr) (len cap : Nat) :
    Calls Tryz.prog 128 #[.pointer (some ⟨S, 0, none⟩), slotV l p, .slice v len cap] w fun e w' => e = .returned (.tuple #[]) ∧ ∃ fx' fy', SPic w' FD G S D X Y fx' fy' A (s.giveUp l p) ∧ Chg [X, Y] w w' := by
  have hlog := h.ok.log l
  obtain ⟨x, hx0⟩ : ∃ x, s.look (l : Int) = x := ⟨_, rfl⟩
  have hxl : s.log l = x := by rw [← hx0, look_nat]
  rw [hxl] at hlog
  have b1 : Below w.heap.size w (w.alloc (.cells #[.int .i64 (l : Int), .int .i64 (p : Int)] TSl)) := (Below.refl _ w).alloc (Nat.le_refl _) _
  have h1 := h.below b1
  have h1d := h1.below (Below.refl _ _).drew
  have h2 := (h1.below ((Below.refl _ _).alloc (Nat.le_refl _) (.cells #[.int .i64 0, .int .i64 0, .bool false] 96))).below (Below.refl _ _).drew
  have hlk := h1d.lookY (l : Int) (by omega) (by omega)
  have hlk2 := h2.lookY (l : Int) (by omega) (by omega)
  rw [hx0] at hlk hlk2
  unfold logV at hlk hlk2
  obtain ⟨-, -, c2, -⟩ := h.cells
  obtain ⟨-, -, c2', -⟩ := h1.cells
  have hS := h.ltS
  obtain ⟨W1, hW1⟩ : ∃ W1, ((w.alloc (.cells #[.int .i64 (l : Int), .int .i64 (p : Int)] TSl)).alloc (.cells #[.int .i64 (x.tail : Int), .int .i64 (x.trim : Int), .bool x.sealed] 96)).drew = W1 := ⟨_, rfl⟩
  have bw : Below w.heap.size w W1 := by rw [← hW1]; exact (b1.alloc (by simp) _).drew
  have K1 : Hid (Blk W1 w.heap.size #[.int .i64 (l : Int), .int .i64 (p : Int)] TSl) := (show Hid _ from (by rw [← hW1]; exact (Blk.later (heap_alloc_last w _) (((Below.refl _ _).alloc (Nat.le_refl _) _).drew))))
  have k2 : Blk W1 (w.heap.size + 1) #[.int .i64 (x.tail : Int), .int .i64 (x.trim : Int), .bool x.sealed] 96 := by
    rw [← hW1]
    have q : Blk ((w.alloc (.cells #[.int .i64 (l : Int), .int .i64 (p : Int)] TSl)).alloc (.cells #[.int .i64 (x.tail : Int), .int .i64 (x.trim : Int), .bool x.sealed] 96)) (w.heap.size + 1) #[.int .i64 (x.tail : Int), .int .i64 (x.trim : Int), .bool x.sealed] 96 := by
      have q2 : Blk ((w.alloc (.cells #[.int .i64 (l : Int), .int .i64 (p : Int)] TSl)).alloc (.cells #[.int .i64 (x.tail : Int), .int .i64 (x.trim : Int), .bool x.sealed] 96)) (w.alloc (.cells #[.int .i64 (l : Int), .int .i64 (p : Int)] TSl)).heap.size #[.int .i64 (x.tail : Int), .int .i64 (x.trim : Int), .bool x.sealed] 96 := heap_alloc_last _ _
      rw [World.size_alloc] at q2
      exact q2
    exact q.later (Below.refl _ _).drew
  have K2 : Hid (Blk W1 (w.heap.size + 1) #[.int .i64 (x.tail : Int), .int .i64 (x.trim : Int), .bool x.sealed] 96) := k2
  have HGI : Hid (GI w W1 W1 FD G S D X Y fy A s l x.trim n) := (show Hid _ from (by
    refine ⟨⟨fx, ?_, hx.keep (bw.block X (h.lt X h.mX))⟩, Chg.refl _ _⟩
    rw [← hxl, cutTo_start]
    exact h.below bw))
  have HB : Hid (∀ wr, Chg [X] W1 wr → Blk wr w.heap.size #[.int .i64 (l : Int), .int .i64 (p : Int)] TSl ∧ Blk wr (w.heap.size + 1) #[.int .i64 (x.tail : Int), .int .i64 (x.trim : Int), .bool x.sealed] 96) := (show Hid _ from fun wr hc => by
    have hXl := h.lt X h.mX
    exact ⟨K1.out.chg hc (by simp; omega), K2.out.chg hc (by simp; omega)⟩)
  have HE : Hid (∀ (k : Nat) (wr : World), GI w W1 wr FD G S D X Y fy A s l k n → (k = p ∨ (k = x.trim ∧ p ≤ x.trim)) → ∀ (tl tr : Nat), tl = max x.tail p → tr = max x.trim p → ∃ w5, (Instr.mapUpdate 53 (.map (some Y)) (.int .i64 (l : Int)) (.agg #[.int .i64 (tl : Int), .int .i64 (tr : Int), .bool x.sealed])).run Tryz.prog ((wr.setCell ⟨w.heap.size + 1, 1, none⟩ (.int .i64 (tr : Int))).setCell ⟨w.heap.size + 1, 0, none⟩ (.int .i64 (tl : Int))).drew = .ok () w5 ∧ Hid (∃ fx' fy', SPic w5 FD G S D X Y fx' fy' A (s.giveUp l p) ∧ Chg [X, Y] w w5)) := (show Hid _ from fun k wr hg hk tl tr e1 e2 => by
    obtain ⟨⟨fx', hp', hx'⟩, hc⟩ := hg
    have hsz := bw.size
    have s1 : W1.heap.size = w.heap.size + 2 := by rw [← hW1]; show ((w.alloc _).alloc _).heap.size = _; simp
    have hset : Chg [w.heap.size + 1] wr ((wr.setCell ⟨w.heap.size + 1, 1, none⟩ (.int .i64 (tr : Int))).setCell ⟨w.heap.size + 1, 0, none⟩ (.int .i64 (tl : Int))).drew := (((Chg.refl _ wr).set (Or.inl (by simp)) _ _).set (Or.inl (by simp)) _ _).drew
    have hgl : ∀ g ∈ G, g < w.heap.size := h.lt
    have hfl : ∀ g ∈ FD, g < w.heap.size := h.disk.lt
    have hblk : ∀ g, g ∈ FD ∨ g ∈ G → ((wr.setCell ⟨w.heap.size + 1, 1, none⟩ (.int .i64 (tr : Int))).setCell ⟨w.heap.size + 1, 0, none⟩ (.int .i64 (tl : Int))).drew.heap[g]? = wr.heap[g]? := fun g hg => by
      have hlt : g < w.heap.size := hg.elim (hfl g) (hgl g)
      exact hset.block g (Nat.lt_of_lt_of_le hlt (Nat.le_trans hsz hc.size)) (by simp; omega)
    have hp5 := hp'.keep (w' := ((wr.setCell ⟨w.heap.size + 1, 1, none⟩ (.int .i64 (tr : Int))).setCell ⟨w.heap.size + 1, 0, none⟩ (.int .i64 (tl : Int))).drew) hblk hset.size
    have hyr : MapF ((wr.setCell ⟨w.heap.size + 1, 1, none⟩ (.int .i64 (tr : Int))).setCell ⟨w.heap.size + 1, 0, none⟩ (.int .i64 (tl : Int))).drew 3 Y n fy := hy.keep ((hblk Y (Or.inr h.mY)).trans ((hc.block Y (Nat.lt_of_lt_of_le (hgl Y h.mY) hsz) (by simpa using h.ne.symm)).trans (bw.block Y (hgl Y h.mY))))
    obtain ⟨w5, r1, r2, r3⟩ := hyr.store (t := 53) keyI Tryz.underlying53 (by have := h.num_le; unfold maxLen; omega) (key := .int .i64 (l : Int)) (val := .agg #[.int .i64 (tl : Int), .int .i64 (tr : Int), .bool x.sealed]) (keyOf_i (by omega))
    refine ⟨w5, r1, (show Hid _ from ⟨fx', updF fy (kI l) (some (logV ⟨tl, tr, x.sealed⟩)), ?_, ?_⟩)⟩
    · have q := hp5.setY (x := ⟨tl, tr, x.sealed⟩) r3 r2 hn hl (by simp only; omega)
      have e3 := cutTo_end s l p k (by rw [hxl]; exact hk)
      rw [hxl, ← e1, ← e2] at e3
      rw [e3] at q
      exact q
    · have q1 : Chg [X, Y] w wr := (Chg.of bw).trans hc (fun k hk => Or.inl (by simp at hk; simp [hk]))
      have q2 : Chg [X, Y] w ((wr.setCell ⟨w.heap.size + 1, 1, none⟩ (.int .i64 (tr : Int))).setCell ⟨w.heap.size + 1, 0, none⟩ (.int .i64 (tl : Int))).drew := q1.trans hset (fun k hk => Or.inr (by simp at hk; omega))
      exact q2.trans r3 (fun k hk => Or.inl (by simp at hk; simp [hk])))
  have HS : Hid (∀ k wr, GI w W1 wr FD G S D X Y fy A s l k n → wr.cell? ⟨S, 1, none⟩ = some (.map (some X)) ∧ wr.cell? ⟨S, 2, none⟩ = some (.map (some Y))) := (show Hid _ from fun k wr hg => by
    obtain ⟨⟨fx', hp', -⟩, -⟩ := hg
    obtain ⟨-, q1, q2, -⟩ := hp'.cells
    exact ⟨q1, q2⟩)
  have hnn : n ≤ s.num := by omega
  have HST : Hid (∀ k wr, GI w W1 wr FD G S D X Y fy A s l k n → k < 4096 → x.trim ≤ k → ∃ w4, (∀ ty, (Builtin.delete_ #[52, TSl] ty #[.map (some X), .agg #[.int .i64 (l : Int), .int .i64 (k : Int)]]).run Tryz.prog wr.drew = .ok (.tuple #[]) w4) ∧ GI w W1 w4 FD G S D X Y fy A s l (k + 1) n) := (show Hid _ from fun k wr hg hk ht => hg.step hl hk (by rw [hxl]; exact ht) hnn)
  have HSX : Hid (S ≠ w.heap.size ∧ S ≠ w.heap.size + 1) := (show Hid _ from ⟨by omega, by omega⟩)
  clear h h1 h1d h2 b1 hx hy bw k2
  unfold slotV
  go_enter Tryz.func128, Tryz.ntmps128
  go_wp2
  apply once
  case main =>
    intro hm
    go_region_law (fail)
    all_goals exact hm
  clear hlk hlk2 c2 c2'
  obtain ⟨kb1, kb2⟩ := HB.out W1 (Chg.refl _ _)
  have t1 : W1.cell? ⟨w.heap.size + 1, 1, none⟩ = some (.int .i64 (x.trim : Int)) := kb2.cell 1
  clear kb1 kb2
  go_wp2
  clear t1
  go_loopw [7] (fun ps wr => ∃ k : Nat, x.trim ≤ k ∧ (k ≤ p ∨ k = x.trim) ∧ ps = .int .i64 (k : Int) ∧ Hid (GI w W1 wr FD G S D X Y fy A s l k n)) (fun ps _ => p - (Go.RowKit.intOf ps).toNat)
  case atStart => exact ⟨x.trim, Nat.le_refl _, Or.inr rfl, rfl, HGI⟩
  case round =>
    obtain ⟨k, hk1, hk2, rfl, HG⟩ := hrel
    obtain ⟨q1, q2⟩ := HS.out k wr HG.out
    obtain ⟨kb1, kb2⟩ := HB.out wr HG.out.chg
    have d0 : wr.cell? ⟨w.heap.size, 0, none⟩ = some (.int .i64 (l : Int)) := kb1.cell 0
    have d1 : wr.cell? ⟨w.heap.size, 1, none⟩ = some (.int .i64 (p : Int)) := kb1.cell 1
    by_cases hlt : k < p
    · obtain ⟨w4, hdel, hgi⟩ := HST.out k wr HG.out (by omega) hk1
      have HG4 : Hid (GI w W1 w4 FD G S D X Y fy A s l (k + 1) n) := hgi
      clear hgi kb1 kb2 q2
      go_wp2
      apply once
      case main =>
        intro hm
        go_region_law (fail)
        all_goals exact hm
      go_wp2
      go_roundw
      case rel => exact ⟨k + 1, by omega, Or.inl (by omega), by go_num, HG4⟩
      case measure => simp [Go.RowKit.intOf]; omega
    · have hend : k = p ∨ (k = x.trim ∧ p ≤ x.trim) := by rcases hk2 with hk2 | hk2 <;> omega
      have e0 : wr.cell? ⟨w.heap.size + 1, 0, none⟩ = some (.int .i64 (x.tail : Int)) := kb2.cell 0
      have e1 : wr.cell? ⟨w.heap.size + 1, 1, none⟩ = some (.int .i64 (x.trim : Int)) := kb2.cell 1
      have e2 : wr.cell? ⟨w.heap.size + 1, 2, none⟩ = some (.bool x.sealed) := kb2.cell 2
      have f0 := kb2.free 0
      have f1 := kb2.free 1
      clear kb1 kb2 q1
      have HEN : Hid (k = p ∨ (k = x.trim ∧ p ≤ x.trim)) := hend
      clear hend hk2
      obtain ⟨n1, n2⟩ := HSX.out
      by_cases ha : x.trim < p
      · by_cases hb : x.tail < p
        · obtain ⟨w5, hst, HF⟩ := HE.out k wr HG.out HEN.out p p (by omega) (by omega)
          have ha' : (x.trim : Int) < (p : Int) := by omega
          have hb' : (x.tail : Int) < (p : Int) := by omega
          go_wp2
          apply once
          case main =>
            intro hm
            go_region_law (fail)
            all_goals exact hm
          go_wp2
          exact bodyPost_end (results_none rfl _ _ _) rfl ⟨rfl, HF.out⟩
        · obtain ⟨w5, hst, HF⟩ := HE.out k wr HG.out HEN.out x.tail p (by omega) (by omega)
          have ha' : (x.trim : Int) < (p : Int) := by omega
          have hb' : (p : Int) ≤ (x.tail : Int) := by omega
          go_wp2
          apply once
          case main =>
            intro hm
            go_region_law (fail)
            all_goals exact hm
          go_wp2
          exact bodyPost_end (results_none rfl _ _ _) rfl ⟨rfl, HF.out⟩
      · by_cases hb : x.tail < p
        · obtain ⟨w5, hst, HF⟩ := HE.out k wr HG.out HEN.out p x.trim (by omega) (by omega)
          have ha' : (p : Int) ≤ (x.trim : Int) := by omega
          have hb' : (x.tail : Int) < (p : Int) := by omega
          go_wp2
          apply once
          case main =>
            intro hm
            go_region_law (fail)
            all_goals exact hm
          go_wp2
          exact bodyPost_end (results_none rfl _ _ _) rfl ⟨rfl, HF.out⟩
        · obtain ⟨w5, hst, HF⟩ := HE.out k wr HG.out HEN.out x.tail x.trim (by omega) (by omega)
          have ha' : (p : Int) ≤ (x.trim : Int) := by omega
          have hb' : (p : Int) ≤ (x.tail : Int) := by omega
          go_wp2
          apply once
          case main =>
            intro hm
            go_region_law (fail)
            all_goals exact hm
          go_wp2
          exact bodyPost_end (results_none rfl _ _ _) rfl ⟨rfl, HF.out⟩
end Go.Proofs.YtikomnbhmmjfnaaGreat
