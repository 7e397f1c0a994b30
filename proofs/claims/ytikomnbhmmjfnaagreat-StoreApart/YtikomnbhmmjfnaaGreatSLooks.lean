/- A store in memory: its struct, its disk, its two maps, its data. No function of the program is named here. -/
import Derived.Test.YtikomnbhmmjfnaaGreatMapF
import Derived.Test.YtikomnbhmmjfnaaGreatSStN
import Derived.Test.YtikomnbhmmjfnaaGreatSettleN
namespace Go.Proofs.YtikomnbhmmjfnaaGreat
open Go.RowKit

abbrev TS : TypeId := 55
abbrev TSl : TypeId := 99
/-- The key of a slot. -/
def kS (l p : Nat) : Lit := .string (keyBytes [.int .i64 (l : Int), .int .i64 (p : Int)])
def slotV (l p : Nat) : Value := .agg #[.int .i64 (l : Int), .int .i64 (p : Int)]
def logV (x : LSt) : Value := .agg #[.int .i64 (x.tail : Int), .int .i64 (x.trim : Int), .bool x.sealed]
def storeV (D X Y num fin : Nat) (fallen : Bool) : Array Value := #[.pointer (some ⟨D, 0, none⟩), .map (some X), .map (some Y), .int .i64 (num : Int), .int .i64 (fin : Int), .bool fallen]
theorem laidOut : laidOutB Tryz.prog = true := by kernel_rfl
theorem rowSl : TSl < Tryz.prog.types.size := of_decide_eq_true (by kernel_rfl)
set_option maxRecDepth 100000 in
theorem wideSl : (match Tryz.prog.underlying TSl with | some (.array _ _) | some (.struct _) => true | _ => false) = true := by rw [Tryz.underlying99]
set_option maxRecDepth 100000 in
theorem keySl : Maps.Keyed Tryz.prog TSl := Maps.Keyed.of_law (deep_law_laid laidOut (m := 2) (by omega) rowSl (by kernel_rfl) wideSl)
theorem keyTypeSl : Tryz.prog.keyType TSl = true := by kernel_rfl
theorem cellsInt : Tryz.prog.cellsOf 3 = 1 := by kernel_rfl
theorem cellsSl : Tryz.prog.cellsOf TSl = 2 := by kernel_rfl
theorem wf64 {i : Nat} (hi : i < 9223372036854775808) : (Lit.int .i64 (i : Int)).wf = true := by
  have h1 : IntKind.i64.min = -9223372036854775808 := rfl
  have h2 : IntKind.i64.max = 9223372036854775807 := rfl
  simp [Lit.wf, h1, h2]; omega
theorem keyOf_s {l p : Nat} (hl : l < 9223372036854775808) (hp : p < 9223372036854775808) : keyOf Tryz.prog TSl (slotV l p) = some (kS l p) := by
  have h1 := wf64 hl
  have h2 := wf64 hp
  obtain ⟨m, hm⟩ : ∃ m, Tryz.prog.types.size = m + 1 := ⟨_, (by kernel_rfl : Tryz.prog.types.size = (Tryz.prog.types.size - 1) + 1)⟩
  unfold keyOf slotV
  simp only [Tryz.underlying99]
  rw [if_pos (by simp [keyTypeSl, Value.formed, Tryz.underlying99, cellsSl]), hm]
  unfold Program.keyLits
  simp only [Tryz.underlying99, Value.cells]
  simp [cellsSl, Program.keyLits, Tryz.underlying3, h1, h2, kS, cellsInt]
theorem kS_inj {l p l' p' : Nat} (hl : l < 9223372036854775808) (hp : p < 9223372036854775808) (hl' : l' < 9223372036854775808) (hp' : p' < 9223372036854775808) (h : kS l p = kS l' p') : l = l' ∧ p = p' := by
  have h1 := keySl.inj (keyOf_s hl hp) (h ▸ keyOf_s hl' hp')
  simp only [slotV, Value.agg.injEq, Array.mk.injEq, List.cons.injEq, Value.int.injEq, true_and, and_true] at h1
  omega
/-- What holds of a store's state. -/
structure SSt.ok (s : SSt) : Prop where
  slots : ∀ l p d, s.slots l p = some d → l < 281474976710656 ∧ p < 4096 ∧ d.length ≤ 65536
  logs : ∀ i x, s.logs i = some x → i < 281474976710656 ∧ x.tail ≤ 4096 ∧ x.trim ≤ 4096
  num : s.num ≤ s.fin
  fin : s.fin ≤ s.d.bs.length
structure SPic (w : World) (FD G : List Nat) (S D X Y : Nat) (fx fy : Lit → Option Value) (A : Nat → Nat → Value) (s : SSt) : Prop where
  ok : s.ok
  disk : Dk w FD D s.d
  hS : w.heap[S]? = some (.cells (storeV D X Y s.num s.fin s.fallen) TS (0, 0))
  hX : MapF w TSl X s.num fx
  hY : MapF w 3 Y s.num fy
  getX : ∀ l p, l < 281474976710656 → p < 4096 → fx (kS l p) = (s.slots l p).map fun _ => A l p
  dat : ∀ l p d, s.slots l p = some d → ∃ ad cap, A l p = .slice ad d.length cap ∧ Part.ok w ⟨ad, d.length, cap, d⟩ ∧ ∀ b off, ad = some ⟨b, off, none⟩ → d ≠ [] → b ∈ G
  getY : ∀ i : Nat, fy (kI i) = (s.logs i).map logV
  supY : ∀ kl v, fy kl = some v → ∃ i : Nat, i < 281474976710656 ∧ kl = kI i
  mS : S ∈ G
  mX : X ∈ G
  mY : Y ∈ G
  ne : X ≠ Y
  apart : ∀ g ∈ G, g ∉ FD
  lt : ∀ g ∈ G, g < w.heap.size
variable {w w' : World} {FD G : List Nat} {S D X Y : Nat} {fx fy : Lit → Option Value} {A : Nat → Nat → Value} {s : SSt}
theorem SPic.keep (h : SPic w FD G S D X Y fx fy A s) (hk : ∀ g, g ∈ FD ∨ g ∈ G → w'.heap[g]? = w.heap[g]?) (hs : w.heap.size ≤ w'.heap.size) : SPic w' FD G S D X Y fx fy A s :=
  ⟨h.ok, h.disk.keep (fun g hg => hk g (Or.inl hg)) hs, (hk S (Or.inr h.mS)).trans h.hS, h.hX.keep (hk X (Or.inr h.mX)), h.hY.keep (hk Y (Or.inr h.mY)), h.getX, fun l p d hd => by
    obtain ⟨ad, cap, e, hp, hg⟩ := h.dat l p d hd
    refine ⟨ad, cap, e, ⟨hp.1, hp.2.1, hp.2.2.1, ?_⟩, hg⟩
    rcases hp.2.2.2 with h0 | ⟨b, off, e2, hb, hc⟩
    · exact Or.inl h0
    · by_cases h0 : d = []
      · exact Or.inl h0
      · refine Or.inr ⟨b, off, e2, Nat.lt_of_lt_of_le hb hs, fun i hi => ?_⟩
        have h1 := hk b (Or.inr (hg b off e2 h0))
        simp only [World.cell?, h1]
        exact hc i hi, h.getY, h.supY, h.mS, h.mX, h.mY, h.ne, h.apart, fun g hg => Nat.lt_of_lt_of_le (h.lt g hg) hs⟩
theorem SPic.below (h : SPic w FD G S D X Y fx fy A s) (hb : Below w.heap.size w w') : SPic w' FD G S D X Y fx fy A s :=
  h.keep (fun g hg => hb.block g (hg.elim (h.disk.lt g) (h.lt g))) hb.size
/-- Behind a call on the disk. -/
theorem SPic.disked (h : SPic w FD G S D X Y fx fy A s) {d : DSt} (hm : Moved Dk FD D d w w') (hl : d.bs.length = s.d.bs.length) : ∃ FD', SPic w' FD' G S D X Y fx fy A { s with d := d } ∧ (∀ g ∈ FD', g ∈ FD ∨ w.heap.size ≤ g) ∧ Chg FD w w' := by
  obtain ⟨⟨FD', hd, hf⟩, hc⟩ := hm
  have hk : ∀ g ∈ G, w'.heap[g]? = w.heap[g]? := fun g hg => hc.block g (h.lt g hg) (h.apart g hg)
  refine ⟨FD', ?_, hf, hc⟩
  exact ⟨⟨h.ok.slots, h.ok.logs, h.ok.num, by show s.fin ≤ d.bs.length; rw [hl]; exact h.ok.fin⟩, hd, (hk S h.mS).trans h.hS, h.hX.keep (hk X h.mX), h.hY.keep (hk Y h.mY), h.getX, fun l p d hd => by
    obtain ⟨ad, cap, e, hp, hg⟩ := h.dat l p d hd
    exact ⟨ad, cap, e, hp.chg hc (fun b off e2 h0 => h.apart b (hg b off e2 h0)), hg⟩, h.getY, h.supY, h.mS, h.mX, h.mY, h.ne, fun g hg hm => (hf g hm).elim (h.apart g hg) (fun h1 => absurd (h.lt g hg) (by omega)), fun g hg => Nat.lt_of_lt_of_le (h.lt g hg) hc.size⟩
theorem SPic.ltS (h : SPic w FD G S D X Y fx fy A s) : S < w.heap.size := h.lt S h.mS
theorem SPic.cell (h : SPic w FD G S D X Y fx fy A s) (i : Nat) : w.cell? ⟨S, i, none⟩ = (storeV D X Y s.num s.fin s.fallen)[i]? := cell_of_row _ _ _ _ _ _ h.hS
theorem SPic.free (h : SPic w FD G S D X Y fx fy A s) (i : Nat) : w.frozen? ⟨S, i, none⟩ = false := by simp [World.frozen?, h.hS]
theorem SPic.cells (h : SPic w FD G S D X Y fx fy A s) : w.cell? ⟨S, 0, none⟩ = some (.pointer (some ⟨D, 0, none⟩)) ∧ w.cell? ⟨S, 1, none⟩ = some (.map (some X)) ∧ w.cell? ⟨S, 2, none⟩ = some (.map (some Y)) ∧ w.cell? ⟨S, 3, none⟩ = some (.int .i64 (s.num : Int)) ∧ w.cell? ⟨S, 4, none⟩ = some (.int .i64 (s.fin : Int)) ∧ w.cell? ⟨S, 5, none⟩ = some (.bool s.fallen) :=
  ⟨h.cell 0, h.cell 1, h.cell 2, h.cell 3, h.cell 4, h.cell 5⟩
theorem Dk.n2 {F : List Nat} {d : DSt} (h : Dk w F D d) : d.bs.length ≤ 4096 := by
  obtain ⟨B, M, Dm, V, C, h⟩ := h
  exact h.n2
theorem Dk.n1 {F : List Nat} {d : DSt} (h : Dk w F D d) : 1 ≤ d.bs.length := by
  obtain ⟨B, M, Dm, V, C, h⟩ := h
  exact h.n1
theorem SPic.fin_le (h : SPic w FD G S D X Y fx fy A s) : s.fin ≤ 4096 := Nat.le_trans h.ok.fin h.disk.n2
theorem SPic.num_le (h : SPic w FD G S D X Y fx fy A s) : s.num ≤ 4096 := Nat.le_trans h.ok.num h.fin_le
theorem SPic.neS (h : SPic w FD G S D X Y fx fy A s) : S ≠ X ∧ S ≠ Y := by
  obtain ⟨es, c, hx⟩ := h.hX.isMap
  obtain ⟨es', c', hy⟩ := h.hY.isMap
  refine ⟨fun e => ?_, fun e => ?_⟩
  · have h1 := h.hS; rw [e, hx] at h1; cases h1
  · have h1 := h.hS; rw [e, hy] at h1; cases h1
/-- No cell of the struct is a byte. -/
theorem SPic.not_byte (h : SPic w FD G S D X Y fx fy A s) {off : Nat} {x : Int} (hc : w.cell? ⟨S, off, none⟩ = some (.int .u8 x)) : False := by
  rw [h.cell] at hc
  rcases off with _ | _ | _ | _ | _ | _ | k
  all_goals (simp [storeV] at hc)
/-- Behind a store into the struct: the numbers, or whether it has fallen. -/
theorem SPic.setS (h : SPic w FD G S D X Y fx fy A s) (hc : Chg [S] w w') {s' : SSt} {cs : Array Value} (hS : w'.heap[S]? = some (.cells cs TS (0, 0))) (hcs : cs = storeV D X Y s'.num s'.fin s'.fallen) (hs : s' = { s with num := s'.num, fin := s'.fin, fallen := s'.fallen }) (ok : s'.ok) (hn : s.num ≤ s'.num := by exact Nat.le_refl _) : SPic w' FD G S D X Y fx fy A s' := by
  have hk : ∀ g ∈ G, g ≠ S → w'.heap[g]? = w.heap[g]? := fun g hg hne => hc.block g (h.lt g hg) (by simpa using hne)
  have hd : ∀ g ∈ FD, w'.heap[g]? = w.heap[g]? := fun g hg => hc.block g (h.disk.lt g hg) (by simp; intro e; subst e; exact h.apart _ h.mS hg)
  subst hcs
  have e1 : s'.d = s.d := by rw [hs]
  have e2 : s'.slots = s.slots := by rw [hs]
  have e3 : s'.logs = s.logs := by rw [hs]
  refine ⟨ok, by rw [e1]; exact h.disk.keep hd hc.size, hS, (h.hX.keep (hk X h.mX h.neS.1.symm)).mono hn, (h.hY.keep (hk Y h.mY h.neS.2.symm)).mono hn, by rw [e2]; exact h.getX, ?_, by rw [e3]; exact h.getY, h.supY, h.mS, h.mX, h.mY, h.ne, h.apart, fun g hg => Nat.lt_of_lt_of_le (h.lt g hg) hc.size⟩
  rw [e2]
  intro l p d hd
  obtain ⟨ad, cap, e, hp, hg⟩ := h.dat l p d hd
  refine ⟨ad, cap, e, hp.chg hc (fun b off e2 h0 => ?_), hg⟩
  have hb := hp.2.2.2
  rcases hb with h1 | ⟨b', off', e3, hlt, hcell⟩
  · exact absurd h1 h0
  · have e3 : ad = some ⟨b', off', none⟩ := e3
    have e2 : ad = some ⟨b, off, none⟩ := e2
    rw [e2] at e3
    cases e3
    intro hm
    simp at hm
    have h2 := hcell 0 (List.length_pos_iff.2 h0)
    rw [hm, Nat.add_zero] at h2
    have h3 := cell_of_row w S off _ _ _ h.hS
    rw [h3] at h2
    have : ∀ (k : Nat) (v : Value), (storeV D X Y s.num s.fin s.fallen)[k]? = some v → ∀ n, v ≠ Value.int .u8 n := by
      intro k v hv n
      rcases k with _ | _ | _ | _ | _ | _ | k
      all_goals (simp [storeV] at hv)
      all_goals (rw [← hv]; simp)
    exact this _ _ h2 _ rfl
/-- A store in w whose blocks are all in F. -/
def Sk (w : World) (F : List Nat) (S D : Nat) (s : SSt) : Prop := ∃ FD G X Y fx fy A, SPic w FD G S D X Y fx fy A s ∧ (∀ g ∈ FD, g ∈ F) ∧ (∀ g ∈ G, g ∈ F) ∧ (∀ g ∈ F, g < w.heap.size)
/-- What a call on a store leaves. -/
structure SMoved (F : List Nat) (S D : Nat) (s : SSt) (w w' : World) : Prop where
  store : ∃ F', Sk w' F' S D s ∧ ∀ g ∈ F', g ∈ F ∨ w.heap.size ≤ g
  chg : Chg F w w'
end Go.Proofs.YtikomnbhmmjfnaaGreat

/- The looks of package store: made, powerless, look, Tail, Free; fall. -/
namespace Go.Proofs.YtikomnbhmmjfnaaGreat
open Go.RowKit
variable {w w' : World} {FD G : List Nat} {S D X Y : Nat} {fx fy : Lit → Option Value} {A : Nat → Nat → Value} {s : SSt}

set_option maxRecDepth 100000 in
theorem SPic.lookY (h : SPic w FD G S D X Y fx fy A s) (i : Int) (h1 : -9223372036854775808 ≤ i) (h2 : i ≤ 9223372036854775807) : (Instr.lookup 53 (.map (some Y)) (.int .i64 i) false).run Tryz.prog w = .ok (logV (s.look i)) w := by
  have hk : keyOf Tryz.prog 3 (.int .i64 i) = some (.int .i64 i) := Maps.keyOf_int_mk Tryz.underlying3 (by have e1 : IntKind.i64.min = -9223372036854775808 := rfl; have e2 : IntKind.i64.max = 9223372036854775807 := rfl; simp [Lit.wf, e1, e2]; omega)
  rw [h.hY.look keyI Tryz.underlying53 (Tryz.zeroValue96 w) hk]
  congr 1
  unfold SSt.look
  by_cases h0 : 0 ≤ i
  · rw [if_pos h0]
    obtain ⟨n, rfl⟩ : ∃ n : Nat, i = n := ⟨i.toNat, by omega⟩
    have := h.getY n
    unfold kI at this
    rw [this]
    unfold SSt.log
    simp only [Int.toNat_natCast]
    cases s.logs n <;> rfl
  · rw [if_neg h0]
    cases hf : fy (.int .i64 i) with
    | none => rfl
    | some v =>
      obtain ⟨n, _, e⟩ := h.supY _ _ hf
      unfold kI at e
      injection e with _ e
      omega
set_option maxRecDepth 100000 in
set_option maxHeartbeats 1000000 in
theorem smade_pic (h : SPic w FD G S D X Y fx fy A s) : Calls Tryz.prog 47 #[.pointer (some ⟨S, 0, none⟩)] w fun e w' => e = .returned (.bool true) ∧ w' = w := by
  obtain ⟨c0, -⟩ := h.cells
  clear h
  go_enter Tryz.func47, Tryz.ntmps47
  go_wp2
  all_goals go_ret
  all_goals simp
set_option maxRecDepth 100000 in
set_option maxHeartbeats 1000000 in
theorem powerless_pic (h : SPic w FD G S D X Y fx fy A s) : Calls Tryz.prog 51 #[.pointer (some ⟨S, 0, none⟩)] w fun e w' => e = .returned (.bool s.down) ∧ w' = w := by
  obtain ⟨c0, -, -, -, -, c5⟩ := h.cells
  obtain ⟨B, M, Dm, V, C, hd⟩ := h.disk
  have hdn := down_pic hd
  unfold SSt.down
  generalize s.d.off = off at *
  generalize s.fallen = fallen at *
  clear h hd
  cases fallen
  · go_enter Tryz.func51, Tryz.ntmps51
    go_wp2_with (go_at_call 40; refine hdn.mono ?_; rintro e w' ⟨rfl, hw'⟩; obtain rfl := hw'.symm)
    all_goals go_ret
    all_goals simp
  · go_enter Tryz.func51, Tryz.ntmps51
    go_wp2
    all_goals go_ret
    all_goals simp
set_option maxRecDepth 100000 in
set_option maxHeartbeats 1000000 in
theorem look_pic (h : SPic w FD G S D X Y fx fy A s) (i : Int) (h1 : -9223372036854775808 ≤ i) (h2 : i ≤ 9223372036854775807) : Calls Tryz.prog 55 #[.pointer (some ⟨S, 0, none⟩), .int .i64 i] w fun e w' => e = .returned (logV (s.look i)) ∧ Below w.heap.size w w' := by
  obtain ⟨-, -, c2, -⟩ := h.cells
  have b1 : Below w.heap.size w (w.alloc (.cells #[.int .i64 0, .int .i64 0, .bool false] 96)) := (Below.refl _ w).alloc (Nat.le_refl _) _
  have h3 := h.below b1
  obtain ⟨-, -, c2', -⟩ := h3.cells
  have hm := smade_pic h3
  have hl := h3.lookY i h1 h2
  have hS := h.ltS
  unfold logV at *
  generalize s.look i = x at *
  clear h h3 b1
  go_enter Tryz.func55, Tryz.ntmps55
  go_wp2_with (go_at_call 47; refine hm.mono ?_; rintro e w' ⟨rfl, hw'⟩; obtain rfl := hw'.symm)
  refine bodyPost_ret (v := .agg #[.int .i64 (x.tail : Int), .int .i64 (x.trim : Int), .bool x.sealed]) (by simp [results, Tryz.results55, go_sem]) rfl ⟨rfl, ?_⟩
  exact (Below.refl _ w).alloc (Nat.le_refl _) _
set_option maxRecDepth 100000 in
set_option maxHeartbeats 1000000 in
theorem fld52 (a b c : Value) (W : World) : (Instr.field 96 (.agg #[a, b, c]) 0).run Tryz.prog W = .ok a W ∧ (Instr.field 96 (.agg #[a, b, c]) 1).run Tryz.prog W = .ok b W ∧ (Instr.field 96 (.agg #[a, b, c]) 2).run Tryz.prog W = .ok c W := by
  refine ⟨?_, ?_, ?_⟩ <;> simp [Instr.field, go_sem, asAgg]
set_option maxRecDepth 100000 in
set_option maxHeartbeats 1000000 in
theorem tail_pic (h : SPic w FD G S D X Y fx fy A s) (i : Int) (h1 : -9223372036854775808 ≤ i) (h2 : i ≤ 9223372036854775807) : Calls Tryz.prog 18 #[.pointer (some ⟨S, 0, none⟩), .int .i64 i] w fun e w' => e = .returned (.int .i64 ((s.look i).tail : Nat)) ∧ Below w.heap.size w w' := by
  have hl := look_pic h i h1 h2
  unfold logV at hl
  have hf := fun W => (fld52 (.int .i64 ((s.look i).tail : Int)) (.int .i64 ((s.look i).trim : Int)) (.bool (s.look i).sealed) W).1
  clear h
  go_enter Tryz.func18, Tryz.ntmps18
  go_wp2_with (go_at_call 55; refine hl.mono ?_; rintro e w' ⟨rfl, hb⟩)
  go_ret
  exact ⟨rfl, hb⟩
set_option maxRecDepth 100000 in
set_option maxHeartbeats 1000000 in
theorem fall_pic (h : SPic w FD G S D X Y fx fy A s) : Calls Tryz.prog 81 #[.pointer (some ⟨S, 0, none⟩)] w fun e w' => e = .returned (.int .i64 8) ∧ SPic w' FD G S D X Y fx fy A { s with fallen := true } ∧ Chg [S] w w' := by
  obtain ⟨-, -, -, -, -, c5⟩ := h.cells
  have f5 := h.free 5
  have hc : Chg [S] w (w.setCell ⟨S, 5, none⟩ (.bool true)) := (Chg.refl [S] w).set (Or.inl (by simp)) _ _
  have HP : Hid (SPic w FD G S D X Y fx fy A s) := h
  clear h
  go_enter Tryz.func81, Tryz.ntmps81
  go_wp2
  go_ret
  exact ⟨rfl, HP.out.setS hc (heap_setCell_same w S 5 _ TS _ HP.out.hS) rfl rfl ⟨HP.out.ok.slots, HP.out.ok.logs, HP.out.ok.num, HP.out.ok.fin⟩, hc⟩
end Go.Proofs.YtikomnbhmmjfnaaGreat
