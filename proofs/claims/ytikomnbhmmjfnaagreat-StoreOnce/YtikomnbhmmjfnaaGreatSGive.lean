/- giveUp of package store: what an entry of that kind does. -/
import Derived.Test.YtikomnbhmmjfnaaGreatSFill2
namespace Go.Proofs.YtikomnbhmmjfnaaGreat
open Go.RowKit
variable {w w' : World} {FD G : List Nat} {S D X Y : Nat} {fx fy : Lit → Option Value} {A : Nat → Nat → Value} {s : SSt}

theorem MapF.dropT {T t e : TypeId} {M n : Nat} {f : Lit → Option Value} (h : MapF w T M n f) (K : Maps.Keyed Tryz.prog T) (ht : Tryz.prog.underlying t = some (.map T e)) {key : Value} {kl : Lit} (hkey : keyOf Tryz.prog T key = some kl) :
    ∃ w', (∀ ty, (Builtin.delete_ #[t, T] ty #[.map (some M), key]).run Tryz.prog w = .ok (.tuple #[]) w') ∧ MapF w' T M n (updF f kl none) ∧ Chg [M] w w' := by
  obtain ⟨w', h1, h2, h3⟩ := h.drop K ht hkey 0
  exact ⟨w', fun ty => h1, h2, h3⟩
/-- The slots of a loglet from its trim point on, up to k, are given up. -/
def SSt.cutTo (s : SSt) (l k : Nat) : SSt := { s with slots := fun i q => if i = l ∧ (s.log l).trim ≤ q ∧ q < k then none else s.slots i q }
theorem cutTo_start (s : SSt) (l : Nat) : s.cutTo l (s.log l).trim = s := by
  unfold SSt.cutTo
  have : (fun i q => if i = l ∧ (s.log l).trim ≤ q ∧ q < (s.log l).trim then none else s.slots i q) = s.slots := by
    funext i q
    rw [if_neg (by omega)]
  rw [this]
theorem cutTo_step (s : SSt) (l k : Nat) (hk : (s.log l).trim ≤ k) : (s.cutTo l k).setSlot l k none = s.cutTo l (k + 1) := by
  unfold SSt.cutTo SSt.setSlot
  have : (fun i q => if i = l ∧ q = k then none else if i = l ∧ (s.log l).trim ≤ q ∧ q < k then none else s.slots i q) = (fun i q => if i = l ∧ (s.log l).trim ≤ q ∧ q < k + 1 then none else s.slots i q) := by
    funext i q
    by_cases h1 : i = l ∧ q = k
    · rw [if_pos h1, if_pos (by omega)]
    · rw [if_neg h1]
      by_cases h2 : i = l ∧ (s.log l).trim ≤ q ∧ q < k
      · rw [if_pos h2, if_pos (by omega)]
      · rw [if_neg h2, if_neg (by omega)]
  simp only [this]
theorem cutTo_end (s : SSt) (l p k : Nat) (h : k = p ∨ (k = (s.log l).trim ∧ p ≤ (s.log l).trim)) : (s.cutTo l k).setLog l ⟨max (s.log l).tail p, max (s.log l).trim p, (s.log l).sealed⟩ = s.giveUp l p := by
  unfold SSt.cutTo SSt.setLog SSt.giveUp
  have : (fun i q => if i = l ∧ (s.log l).trim ≤ q ∧ q < k then none else s.slots i q) = (fun i q => if i = l ∧ (s.log l).trim ≤ q ∧ q < p then none else s.slots i q) := by
    funext i q
    by_cases h2 : i = l ∧ (s.log l).trim ≤ q ∧ q < k
    · rw [if_pos h2, if_pos (by omega)]
    · rw [if_neg h2, if_neg (by omega)]
  simp only [this]
  rfl
/-- Behind a delete from the map of slots. -/
theorem SPic.delX (h : SPic w FD G S D X Y fx fy A s) (hc : Chg [X] w w') {n l p : Nat} (hm : MapF w' TSl X n (updF fx (kS l p) none)) (hn : n ≤ s.num) (hl : l < 281474976710656) (hp : p < 4096) : SPic w' FD G S D X Y (updF fx (kS l p) none) fy A (s.setSlot l p none) := by
  have hk : ∀ g ∈ G, g ≠ X → w'.heap[g]? = w.heap[g]? := fun g hg hne => hc.block g (h.lt g hg) (by simpa using hne)
  have hdk : ∀ g ∈ FD, w'.heap[g]? = w.heap[g]? := fun g hg => hc.block g (h.disk.lt g hg) (by simp; intro e; subst e; exact h.apart _ h.mX hg)
  obtain ⟨es, c, hx⟩ := h.hX.isMap
  refine ⟨⟨fun i q e he => ?_, h.ok.logs, h.ok.num, h.ok.fin⟩, h.disk.keep hdk hc.size, (hk S h.mS h.neS.1).trans h.hS, hm.mono hn, h.hY.keep (hk Y h.mY h.ne.symm), fun i q hi hq => ?_, fun i q e he => ?_, h.getY, h.supY, h.mS, h.mX, h.mY, h.ne, h.apart, fun g hg => Nat.lt_of_lt_of_le (h.lt g hg) hc.size⟩
  · simp only [SSt.setSlot] at he
    split at he
    · cases he
    · exact h.ok.slots i q e he
  · by_cases e : i = l ∧ q = p
    · obtain ⟨rfl, rfl⟩ := e; rw [updF_same]; simp [SSt.setSlot]
    · rw [updF_other _ (fun e2 => e (kS_inj (by omega) (by omega) (by omega) (by omega) e2)), h.getX i q hi hq]; simp [SSt.setSlot, e]
  · simp only [SSt.setSlot] at he
    split at he
    · cases he
    · obtain ⟨ad', cap', e2, hp', hg⟩ := h.dat i q e he
      exact ⟨ad', cap', e2, part_map hp' hx hc, hg⟩
/-- What the loop of giveUp has at place k. -/
structure GI (w W1 wr : World) (FD G : List Nat) (S D X Y : Nat) (fy : Lit → Option Value) (A : Nat → Nat → Value) (s : SSt) (l k n : Nat) : Prop where
  pic : ∃ fx', SPic wr FD G S D X Y fx' fy A (s.cutTo l k) ∧ MapF wr TSl X n fx'
  chg : Chg [X] W1 wr
theorem GI.step {W1 wr : World} {l k n : Nat} (h : GI w W1 wr FD G S D X Y fy A s l k n) (hl : l < 281474976710656) (hk : k < 4096) (ht : (s.log l).trim ≤ k) (hn : n ≤ s.num) :
    ∃ w4, (∀ ty, (Builtin.delete_ #[52, TSl] ty #[.map (some X), .agg #[.int .i64 (l : Int), .int .i64 (k : Int)]]).run Tryz.prog wr.drew = .ok (.tuple #[]) w4) ∧ GI w W1 w4 FD G S D X Y fy A s l (k + 1) n := by
  obtain ⟨⟨fx', hp, hx⟩, hc⟩ := h
  have hd := hp.below (Below.refl _ _).drew
  obtain ⟨w4, h1, h2, h3⟩ := (hx.keep (w' := wr.drew) rfl).dropT keySl Tryz.underlying52 (keyOf_s (l := l) (p := k) (by omega) (by omega))
  refine ⟨w4, h1, ⟨⟨_, ?_, h2⟩, (hc.trans (Chg.of (F := []) (Below.refl _ _).drew) (fun k hk => by cases hk)).trans h3 (fun k hk => Or.inl hk)⟩⟩
  have q := hd.delX h3 h2 hn hl hk
  rw [cutTo_step s l k ht] at q
  exact q
set_option maxRecDepth 100000 in
set_option maxHeartbeats 2000000 in
theorem giveUp_pic (h : SPic w FD G S D X Y fx fy A s) (n : Nat) (hn : n + 1 ≤ s.num) (hx : MapF w TSl X n fx) (hy : MapF w 3 Y n fy) (l p : Nat) (hl : l < 281474976710656) (hp : p ≤ 4096) (v : Option Addr) (len cap : Nat) :
    Calls Tryz.prog 128 #[.pointer (some ⟨S, 0, none⟩), slotV l p, .slice v len cap] w fun e w' => e = .returned (.tuple #[]) ∧ ∃ fx' fy', SPic w' FD G S D X Y fx' fy' A (s.giveUp l p) ∧ Chg [X, Y] w w' := by
  have hlog := h.ok.log l
  obtain ⟨x, hx0⟩ : ∃ x, s.look (l : Int) = x := ⟨_, rfl⟩
  have hxl : s.log l = x := by rw [← hx0, look_nat]
  rw [hxl] at hlog
  have b1 : Below w.heap.size w (w.alloc (.cells #[.int .i64 (l : Int), .int .i64 (p : Int)] TSl)) := (Below.refl _ w).alloc (Nat.le_refl _) _
  have h1 := h.below b1
  have h1d := h1.below (Below.refl _ _).drew
  have h2 := (h1.below ((Below.refl _ _).alloc (Nat.le_refl _) (.cells #[.int .i64 0, .int .i64 0, .bool false] 96))).below (Below.refl _ _).drew
  have hlk := h1d.lookY (l : Int) (by omega) (by omega)
  have hlk2 := h2.lookY (l : Int) (by omega) (by omega)
  rw [hx0] at hlk hlk2
  unfold logV at hlk hlk2
  obtain ⟨-, -, c2, -⟩ := h.cells
  obtain ⟨-, -, c2', -⟩ := h1.cells
  have hS := h.ltS
  obtain ⟨W1, hW1⟩ : ∃ W1, ((w.alloc (.cells #[.int .i64 (l : Int), .int .i64 (p : Int)] TSl)).alloc (.cells #[.int .i64 (x.tail : Int), .int .i64 (x.trim : Int), .bool x.sealed] 96)).drew = W1 := ⟨_, rfl⟩
  have bw : Below w.heap.size w W1 := by rw [← hW1]; exact (b1.alloc (by simp) _).drew
  have K1 : Hid (Blk W1 w.heap.size #[.int .i64 (l : Int), .int .i64 (p : Int)] TSl) := (show Hid _ from (by rw [← hW1]; exact (Blk.later (heap_alloc_last w _) (((Below.refl _ _).alloc (Nat.le_refl _) _).drew))))
  have k2 : Blk W1 (w.heap.size + 1) #[.int .i64 (x.tail : Int), .int .i64 (x.trim : Int), .bool x.sealed] 96 := by
    rw [← hW1]
    have q : Blk ((w.alloc (.cells #[.int .i64 (l : Int), .int .i64 (p : Int)] TSl)).alloc (.cells #[.int .i64 (x.tail : Int), .int .i64 (x.trim : Int), .bool x.sealed] 96)) (w.heap.size + 1) #[.int .i64 (x.tail : Int), .int .i64 (x.trim : Int), .bool x.sealed] 96 := by
      have q2 : Blk ((w.alloc (.cells #[.int .i64 (l : Int), .int .i64 (p : Int)] TSl)).alloc (.cells #[.int .i64 (x.tail : Int), .int .i64 (x.trim : Int), .bool x.sealed] 96)) (w.alloc (.cells #[.int .i64 (l : Int), .int .i64 (p : Int)] TSl)).heap.size #[.int .i64 (x.tail : Int), .int .i64 (x.trim : Int), .bool x.sealed] 96 := heap_alloc_last _ _
      rw [World.size_alloc] at q2
      exact q2
    exact q.later (Below.refl _ _).drew
  have K2 : Hid (Blk W1 (w.heap.size + 1) #[.int .i64 (x.tail : Int), .int .i64 (x.trim : Int), .bool x.sealed] 96) := k2
  have HGI : Hid (GI w W1 W1 FD G S D X Y fy A s l x.trim n) := (show Hid _ from (by
    refine ⟨⟨fx, ?_, hx.keep (bw.block X (h.lt X h.mX))⟩, Chg.refl _ _⟩
    rw [← hxl, cutTo_start]
    exact h.below bw))
  have HB : Hid (∀ wr, Chg [X] W1 wr → Blk wr w.heap.size #[.int .i64 (l : Int), .int .i64 (p : Int)] TSl ∧ Blk wr (w.heap.size + 1) #[.int .i64 (x.tail : Int), .int .i64 (x.trim : Int), .bool x.sealed] 96) := (show Hid _ from fun wr hc => by
    have hXl := h.lt X h.mX
    exact ⟨K1.out.chg hc (by simp; omega), K2.out.chg hc (by simp; omega)⟩)
  have HE : Hid (∀ (k : Nat) (wr : World), GI w W1 wr FD G S D X Y fy A s l k n → (k = p ∨ (k = x.trim ∧ p ≤ x.trim)) → ∀ (tl tr : Nat), tl = max x.tail p → tr = max x.trim p → ∃ w5, (Instr.mapUpdate 53 (.map (some Y)) (.int .i64 (l : Int)) (.agg #[.int .i64 (tl : Int), .int .i64 (tr : Int), .bool x.sealed])).run Tryz.prog ((wr.setCell ⟨w.heap.size + 1, 1, none⟩ (.int .i64 (tr : Int))).setCell ⟨w.heap.size + 1, 0, none⟩ (.int .i64 (tl : Int))).drew = .ok () w5 ∧ Hid (∃ fx' fy', SPic w5 FD G S D X Y fx' fy' A (s.giveUp l p) ∧ Chg [X, Y] w w5)) := (show Hid _ from fun k wr hg hk tl tr e1 e2 => by
    obtain ⟨⟨fx', hp', hx'⟩, hc⟩ := hg
    have hsz := bw.size
    have s1 : W1.heap.size = w.heap.size + 2 := by rw [← hW1]; show ((w.alloc _).alloc _).heap.size = _; simp
    have hset : Chg [w.heap.size + 1] wr ((wr.setCell ⟨w.heap.size + 1, 1, none⟩ (.int .i64 (tr : Int))).setCell ⟨w.heap.size + 1, 0, none⟩ (.int .i64 (tl : Int))).drew := (((Chg.refl _ wr).set (Or.inl (by simp)) _ _).set (Or.inl (by simp)) _ _).drew
    have hgl : ∀ g ∈ G, g < w.heap.size := h.lt
    have hfl : ∀ g ∈ FD, g < w.heap.size := h.disk.lt
    have hblk : ∀ g, g ∈ FD ∨ g ∈ G → ((wr.setCell ⟨w.heap.size + 1, 1, none⟩ (.int .i64 (tr : Int))).setCell ⟨w.heap.size + 1, 0, none⟩ (.int .i64 (tl : Int))).drew.heap[g]? = wr.heap[g]? := fun g hg => by
      have hlt : g < w.heap.size := hg.elim (hfl g) (hgl g)
      exact hset.block g (Nat.lt_of_lt_of_le hlt (Nat.le_trans hsz hc.size)) (by simp; omega)
    have hp5 := hp'.keep (w' := ((wr.setCell ⟨w.heap.size + 1, 1, none⟩ (.int .i64 (tr : Int))).setCell ⟨w.heap.size + 1, 0, none⟩ (.int .i64 (tl : Int))).drew) hblk hset.size
    have hyr : MapF ((wr.setCell ⟨w.heap.size + 1, 1, none⟩ (.int .i64 (tr : Int))).setCell ⟨w.heap.size + 1, 0, none⟩ (.int .i64 (tl : Int))).drew 3 Y n fy := hy.keep ((hblk Y (Or.inr h.mY)).trans ((hc.block Y (Nat.lt_of_lt_of_le (hgl Y h.mY) hsz) (by simpa using h.ne.symm)).trans (bw.block Y (hgl Y h.mY))))
    obtain ⟨w5, r1, r2, r3⟩ := hyr.store (t := 53) keyI Tryz.underlying53 (by have := h.num_le; unfold maxLen; omega) (key := .int .i64 (l : Int)) (val := .agg #[.int .i64 (tl : Int), .int .i64 (tr : Int), .bool x.sealed]) (keyOf_i (by omega))
    refine ⟨w5, r1, (show Hid _ from ⟨fx', updF fy (kI l) (some (logV ⟨tl, tr, x.sealed⟩)), ?_, ?_⟩)⟩
    · have q := hp5.setY (x := ⟨tl, tr, x.sealed⟩) r3 r2 hn hl (by simp only; omega)
      have e3 := cutTo_end s l p k (by rw [hxl]; exact hk)
      rw [hxl, ← e1, ← e2] at e3
      rw [e3] at q
      exact q
    · have q1 : Chg [X, Y] w wr := (Chg.of bw).trans hc (fun k hk => Or.inl (by simp at hk; simp [hk]))
      have q2 : Chg [X, Y] w ((wr.setCell ⟨w.heap.size + 1, 1, none⟩ (.int .i64 (tr : Int))).setCell ⟨w.heap.size + 1, 0, none⟩ (.int .i64 (tl : Int))).drew := q1.trans hset (fun k hk => Or.inr (by simp at hk; omega))
      exact q2.trans r3 (fun k hk => Or.inl (by simp at hk; simp [hk])))
  have HS : Hid (∀ k wr, GI w W1 wr FD G S D X Y fy A s l k n → wr.cell? ⟨S, 1, none⟩ = some (.map (some X)) ∧ wr.cell? ⟨S, 2, none⟩ = some (.map (some Y))) := (show Hid _ from fun k wr hg => by
    obtain ⟨⟨fx', hp', -⟩, -⟩ := hg
    obtain ⟨-, q1, q2, -⟩ := hp'.cells
    exact ⟨q1, q2⟩)
  have hnn : n ≤ s.num := by omega
  have HST : Hid (∀ k wr, GI w W1 wr FD G S D X Y fy A s l k n → k < 4096 → x.trim ≤ k → ∃ w4, (∀ ty, (Builtin.delete_ #[52, TSl] ty #[.map (some X), .agg #[.int .i64 (l : Int), .int .i64 (k : Int)]]).run Tryz.prog wr.drew = .ok (.tuple #[]) w4) ∧ GI w W1 w4 FD G S D X Y fy A s l (k + 1) n) := (show Hid _ from fun k wr hg hk ht => hg.step hl hk (by rw [hxl]; exact ht) hnn)
  have HSX : Hid (S ≠ w.heap.size ∧ S ≠ w.heap.size + 1) := (show Hid _ from ⟨by omega, by omega⟩)
  clear h h1 h1d h2 b1 hx hy bw k2
  unfold slotV
  go_enter Tryz.func128, Tryz.ntmps128
  go_wp2
  apply once
  case main =>
    intro hm
    go_region_law (fail)
    all_goals exact hm
  clear hlk hlk2 c2 c2'
  obtain ⟨kb1, kb2⟩ := HB.out W1 (Chg.refl _ _)
  have t1 : W1.cell? ⟨w.heap.size + 1, 1, none⟩ = some (.int .i64 (x.trim : Int)) := kb2.cell 1
  clear kb1 kb2
  go_wp2
  clear t1
  go_loopw [7] (fun ps wr => ∃ k : Nat, x.trim ≤ k ∧ (k ≤ p ∨ k = x.trim) ∧ ps = .int .i64 (k : Int) ∧ Hid (GI w W1 wr FD G S D X Y fy A s l k n)) (fun ps _ => p - (Go.RowKit.intOf ps).toNat)
  case atStart => exact ⟨x.trim, Nat.le_refl _, Or.inr rfl, rfl, HGI⟩
  case round =>
    obtain ⟨k, hk1, hk2, rfl, HG⟩ := hrel
    obtain ⟨q1, q2⟩ := HS.out k wr HG.out
    obtain ⟨kb1, kb2⟩ := HB.out wr HG.out.chg
    have d0 : wr.cell? ⟨w.heap.size, 0, none⟩ = some (.int .i64 (l : Int)) := kb1.cell 0
    have d1 : wr.cell? ⟨w.heap.size, 1, none⟩ = some (.int .i64 (p : Int)) := kb1.cell 1
    by_cases hlt : k < p
    · obtain ⟨w4, hdel, hgi⟩ := HST.out k wr HG.out (by omega) hk1
      have HG4 : Hid (GI w W1 w4 FD G S D X Y fy A s l (k + 1) n) := hgi
      clear hgi kb1 kb2 q2
      go_wp2
      apply once
      case main =>
        intro hm
        go_region_law (fail)
        all_goals exact hm
      go_wp2
      go_roundw
      case rel => exact ⟨k + 1, by omega, Or.inl (by omega), by go_num, HG4⟩
      case measure => simp [Go.RowKit.intOf]; omega
    · have hend : k = p ∨ (k = x.trim ∧ p ≤ x.trim) := by rcases hk2 with hk2 | hk2 <;> omega
      have e0 : wr.cell? ⟨w.heap.size + 1, 0, none⟩ = some (.int .i64 (x.tail : Int)) := kb2.cell 0
      have e1 : wr.cell? ⟨w.heap.size + 1, 1, none⟩ = some (.int .i64 (x.trim : Int)) := kb2.cell 1
      have e2 : wr.cell? ⟨w.heap.size + 1, 2, none⟩ = some (.bool x.sealed) := kb2.cell 2
      have f0 := kb2.free 0
      have f1 := kb2.free 1
      clear kb1 kb2 q1
      have HEN : Hid (k = p ∨ (k = x.trim ∧ p ≤ x.trim)) := hend
      clear hend hk2
      obtain ⟨n1, n2⟩ := HSX.out
      by_cases ha : x.trim < p
      · by_cases hb : x.tail < p
        · obtain ⟨w5, hst, HF⟩ := HE.out k wr HG.out HEN.out p p (by omega) (by omega)
          have ha' : (x.trim : Int) < (p : Int) := by omega
          have hb' : (x.tail : Int) < (p : Int) := by omega
          go_wp2
          apply once
          case main =>
            intro hm
            go_region_law (fail)
            all_goals exact hm
          go_wp2
          exact bodyPost_end (results_none rfl _ _ _) rfl ⟨rfl, HF.out⟩
        · obtain ⟨w5, hst, HF⟩ := HE.out k wr HG.out HEN.out x.tail p (by omega) (by omega)
          have ha' : (x.trim : Int) < (p : Int) := by omega
          have hb' : (p : Int) ≤ (x.tail : Int) := by omega
          go_wp2
          apply once
          case main =>
            intro hm
            go_region_law (fail)
            all_goals exact hm
          go_wp2
          exact bodyPost_end (results_none rfl _ _ _) rfl ⟨rfl, HF.out⟩
      · by_cases hb : x.tail < p
        · obtain ⟨w5, hst, HF⟩ := HE.out k wr HG.out HEN.out p x.trim (by omega) (by omega)
          have ha' : (p : Int) ≤ (x.trim : Int) := by omega
          have hb' : (x.tail : Int) < (p : Int) := by omega
          go_wp2
          apply once
          case main =>
            intro hm
            go_region_law (fail)
            all_goals exact hm
          go_wp2
          exact bodyPost_end (results_none rfl _ _ _) rfl ⟨rfl, HF.out⟩
        · obtain ⟨w5, hst, HF⟩ := HE.out k wr HG.out HEN.out x.tail x.trim (by omega) (by omega)
          have ha' : (p : Int) ≤ (x.trim : Int) := by omega
          have hb' : (p : Int) ≤ (x.tail : Int) := by omega
          go_wp2
          apply once
          case main =>
            intro hm
            go_region_law (fail)
            all_goals exact hm
          go_wp2
          exact bodyPost_end (results_none rfl _ _ _) rfl ⟨rfl, HF.out⟩
end Go.Proofs.YtikomnbhmmjfnaaGreat
