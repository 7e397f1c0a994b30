/- record of package store: an entry is written, and done. -/
import Derived.Test.YtoopnafdpenofaaDTake
import Derived.Test.YtoopnafdpenofaaSWrite
import Derived.Test.YtoopnafdpenofaaPut
namespace Go.Proofs.Ytoopnafdpenofaa
open Go.RowKit Go.Shelf
variable {w w' : World} {FD G : List Nat} {S D X Y : Nat} {fx fy : Lit → Option Value} {A : Nat → Nat → Value} {s : SSt}

set_option maxRecDepth 100000 in
set_option maxHeartbeats 1000000 in
theorem free_pic (h : SPic w FD G S D X Y fx fy A s) : Calls Try.prog 8 #[.pointer (some ⟨S, 0, none⟩)] w fun e w' => e = .returned (.int .i64 ((s.d.bs.length : Int) - (s.fin : Int))) ∧ ∃ m, w' = w.drewN m := by
  obtain ⟨c0, -, -, -, c4, -⟩ := h.cells
  have hm := smade_pic h
  obtain ⟨B, M, Dm, V, C, hd⟩ := h.disk
  have n2 := hd.n2
  have hfl := h.fin_le
  have hbl : ∀ m, Calls Try.prog 10 #[.pointer (some ⟨D, 0, none⟩)] (w.drewN m) fun e w' => e = .returned (.int .i64 (s.d.bs.length : Nat)) ∧ w' = w.drewN m := fun m => blocks_pic (hd.below (below_drewN' (Below.refl _ _) m))
  generalize s.d.bs.length = n at *
  have hwr : IntKind.i64.wrap ((n : Int) - (s.fin : Int)) = (n : Int) - (s.fin : Int) := by rw [IntKind.wrap_i64]; omega
  clear h hd
  go_enter Try.func8, Try.ntmps8
  go_wp2_with (go_at_call 17; refine hm.mono ?_; rintro e w' ⟨rfl, hw'⟩; obtain rfl := hw'.symm)
  go_quiet ((go_at_call 10; exact Calls.quiet_of_same (hbl _)))
  go_wp2
  go_ret
  exact ⟨rfl, _, rfl⟩
theorem own_dB {w : World} {N : Nat} {p : Part} {l : List Nat} (h : Own w N (.slice p.ad p.len p.cap) l) : (∀ g ∈ dB p.ad, N ≤ g ∧ g < w.heap.size) ∧ p.len ≤ p.cap := by
  obtain ⟨ad, len, cap, l'⟩ := p
  rcases h.2.2 with ⟨hv, h0⟩ | ⟨g, cap', cur, hv, hb, hg, hn, _⟩
  · cases hv
    exact ⟨by simp [dB], Nat.le_refl 0⟩
  · cases hv
    refine ⟨fun k hk => ?_, hn⟩
    simp [dB] at hk
    subst hk
    exact ⟨hb, (Array.getElem?_eq_some_iff.1 hg).1⟩
/-- The world in which the iterator over an entry's blocks has its boxes. -/
def partsW (W : World) (p number : Nat) (v : Value) : World := ((W.alloc (.cells #[.int .i64 (p : Int)] 3)).alloc (.cells #[.int .i64 (number : Int)] 3)).alloc (.cells #[v] 34)
def partsV (n : Nat) : Value := .func (.func 48) #[] #[.pointer (some ⟨n + 2, 0, none⟩), .pointer (some ⟨n, 0, none⟩), .pointer (some ⟨n + 1, 0, none⟩)]
theorem partsW_below (W : World) (p number : Nat) (v : Value) : Below W.heap.size W (partsW W p number v) := (((Below.refl _ _).alloc (Nat.le_refl _) _).alloc (by simp) _).alloc (by simp; omega) _
theorem partsW_size (W : World) (p number : Nat) (v : Value) : (partsW W p number v).heap.size = W.heap.size + 3 := by simp [partsW]
theorem partsW_seq (W : World) (K : Nat → World → Prop) (p number : Nat) (ad : Option Addr) (len cap : Nat) (text : List Nat) (hp : Part.ok W ⟨ad, len, cap, text⟩) (hlc : len ≤ cap) (hlen : len ≤ 1000000) (hnum : number < 281474976710656) (hp1 : p ≤ 1000000) (hd : ∀ g ∈ dB ad, g < W.heap.size) :
    SeqR Try.prog 48 #[.pointer (some ⟨W.heap.size + 2, 0, none⟩), .pointer (some ⟨W.heap.size, 0, none⟩), .pointer (some ⟨W.heap.size + 1, 0, none⟩)] (Kg ([W.heap.size, W.heap.size + 1, W.heap.size + 2] ++ dB ad)) K (RowR (rowAt p (blocksN number text))) (rowAt p (blocksN number text)).length (partsW W p number (.slice ad len cap)) := by
  rw [rowAt_length, blocksN_length, hp.1]
  have hb := partsW_below W p number (.slice ad len cap)
  obtain ⟨k1, k2, k3⟩ := three_blocks W (.cells #[.int .i64 (p : Int)] 3) (.cells #[.int .i64 (number : Int)] 3) (.cells #[.slice ad len cap] 34)
  refine parts_seq p number ad len cap text (W.heap.size + 2) W.heap.size (W.heap.size + 1) _ _ K (hp.later hb) hlc hlen hnum hp1 (cell_of_row _ _ _ _ _ _ k3) (cell_of_row _ _ _ _ _ _ k1) (cell_of_row _ _ _ _ _ _ k2) (by simp) (by simp) (by simp) (fun b off e _ => List.mem_append_right _ (by rw [e]; simp [dB])) (fun g hg => ?_)
  rw [partsW_size]
  rcases List.mem_append.1 hg with h | h
  · simp at h; omega
  · have := hd g h; omega
theorem enters_parts : ∀ args w, (callFunc 48 args).run Try.prog w = .ok (.enter 48 args) w := enters_of Try.func48 (by kernel_rfl) rfl
/-- An entry's blocks are written. -/
theorem write_parts (h : SPic w FD G S D X Y fx fy A s) (ad : Option Addr) (len cap : Nat) (text : List Nat) (hp : Part.ok w ⟨ad, len, cap, text⟩) (hlc : len ≤ cap) (hlen : len ≤ 1000000) (hd : ∀ g ∈ dB ad, g < w.heap.size ∧ g ∉ FD) (hfew : ∀ x ∈ s.d.bs, x.vs.length ≤ 1000000) :
    Calls Try.prog 13 #[.pointer (some ⟨S, 0, none⟩), partsV w.heap.size] (partsW w s.fin s.num (.slice ad len cap)) (WPost (partsW w s.fin s.num (.slice ad len cap)) FD G S D X Y fx fy A s (rowAt s.fin (blocksN s.num text))) := by
  have hb := partsW_below w s.fin s.num (.slice ad len cap)
  have hf := h.fin_le
  have hn := h.num_le
  refine write_any (h.below hb) 48 _ enters_parts _ _ (fun _ _ => True) (partsW_seq w _ s.fin s.num ad len cap text hp hlc hlen (by omega) (by omega) (fun g hg => (hd g hg).1)) (fun g hg => ?_) (fun _ _ _ _ _ => trivial) hfew ?_
  · rw [partsW_size]
    rcases List.mem_append.1 hg with h1 | h1
    · have hg2 : w.heap.size ≤ g ∧ g < w.heap.size + 3 := by simp at h1; omega
      exact ⟨hg2.2, fun hm => absurd (h.disk.lt g hm) (by omega)⟩
    · exact ⟨by have := (hd g h1).1; omega, (hd g h1).2⟩
  · rw [rowAt_length, blocksN_length, hp.1]
    unfold partsN
    show (len + 239) / 240 ≤ 1000000
    omega
end Go.Proofs.Ytoopnafdpenofaa

/- record of package store: its walk. -/
namespace Go.Proofs.Ytoopnafdpenofaa
open Go.RowKit Go.Shelf
variable {w w' : World} {FD G : List Nat} {S D X Y : Nat} {fx fy : Lit → Option Value} {A : Nat → Nat → Value} {s : SSt}

/-- What record answers. -/
def RPost (w : World) (FD G : List Nat) (S D X Y : Nat) (s : SSt) (e : Ent) (ad : Option Addr) (x : Ending) (w' : World) : Prop :=
  x = .returned (.int .i64 (s.record e).1) ∧ ∃ FD' G' fx' fy' A', SPic w' FD' G' S D X Y fx' fy' A' (s.record e).2 ∧ (∀ g ∈ FD', g ∈ FD ∨ w.heap.size ≤ g) ∧ (∀ g ∈ G', g ∈ G ∨ g ∈ dB ad) ∧ Chg (G ++ FD) w w'
/-- What take answers to an entry. -/
def Takes (G : List Nat) (S D X Y : Nat) (fx fy : Lit → Option Value) (A : Nat → Nat → Value) (s : SSt) (kz : Int) (e : Ent) (ad : Option Addr) (len cap : Nat) : Prop :=
  ∀ W FD' d, SPic W FD' G S D X Y fx fy A { s with d := d } → d.bs.length = s.d.bs.length → s.fin + e.parts ≤ s.d.bs.length → Part.ok W ⟨ad, len, cap, e.data⟩ → (∀ g ∈ dB ad, g < W.heap.size ∧ g ∉ FD') →
    Calls Try.prog 26 #[.pointer (some ⟨S, 0, none⟩), .agg #[.int .i64 kz, .int .i64 (e.loglet : Int), .int .i64 (e.pos : Int), .slice ad len cap]] W fun x w' => x = .returned (.tuple #[]) ∧ ∃ G' fx' fy' A', SPic w' FD' G' S D X Y fx' fy' A' (({ s with d := d } : SSt).takeE e) ∧ (∀ g ∈ G', g ∈ G ∨ g ∈ dB ad) ∧ Chg [S, X, Y] W w'
/-- The call of write, in record. -/
theorem write_at (h : SPic w FD G S D X Y fx fy A s) (ad : Option Addr) (len cap : Nat) (text : List Nat) (hp : Part.ok w ⟨ad, len, cap, text⟩) (hlc : len ≤ cap) (hlen : len ≤ 1000000) (hd : ∀ g ∈ dB ad, g < w.heap.size ∧ g ∉ FD) (hfew : ∀ x ∈ s.d.bs, x.vs.length ≤ 1000000) (b : Nat) (hb : b < w.heap.size) (hbF : b ∉ FD) (hbS : b ≠ S) (z : Int) (hz : z = if (lastsD s.d (rowAt s.fin (blocksN s.num text))).1 then 0 else 8) (q0 q1 q2 q3 : Value) (c0 : w.cell? ⟨b, 0, none⟩ = some q0) (c1 : w.cell? ⟨b, 1, none⟩ = some q1) (c2 : w.cell? ⟨b, 2, none⟩ = some q2) (c3 : w.cell? ⟨b, 3, none⟩ = some q3) :
    Calls Try.prog 13 #[.pointer (some ⟨S, 0, none⟩), .func (.func 48) #[] #[.pointer (some ⟨w.heap.size + 2, 0, none⟩), .pointer (some ⟨w.heap.size, 0, none⟩), .pointer (some ⟨w.heap.size + 1, 0, none⟩)]] (((w.alloc (.cells #[.int .i64 (s.fin : Int)] 3)).alloc (.cells #[.int .i64 (s.num : Int)] 3)).alloc (.cells #[.slice ad len cap] 34)) fun x w' => x = .returned (.int .i64 z) ∧ (w'.cell? ⟨S, 4, none⟩ = some (.int .i64 (s.fin : Int)) ∧ w'.cell? ⟨S, 3, none⟩ = some (.int .i64 (s.num : Int)) ∧ w'.cell? ⟨b, 0, none⟩ = some q0 ∧ w'.cell? ⟨b, 1, none⟩ = some q1 ∧ w'.cell? ⟨b, 2, none⟩ = some q2 ∧ w'.cell? ⟨b, 3, none⟩ = some q3) ∧
      Hid (∃ FD', SPic w' FD' G S D X Y fx fy A { s with d := (lastsD s.d (rowAt s.fin (blocksN s.num text))).2, fallen := s.fallen || !(lastsD s.d (rowAt s.fin (blocksN s.num text))).1 } ∧ (∀ g ∈ FD', g ∈ FD ∨ w.heap.size ≤ g) ∧ Chg (S :: FD) w w') := by
  refine (write_parts h ad len cap text hp hlc hlen hd hfew).mono ?_
  rintro x w' ⟨rfl, FD', hp', hn, hc⟩
  have hbel := partsW_below w s.fin s.num (.slice ad len cap)
  have hcw : Chg (S :: FD) w w' := (Chg.of (F := S :: FD) hbel).trans hc (fun k hk => Or.inl hk)
  have hk : ∀ i, w'.cell? ⟨b, i, none⟩ = w.cell? ⟨b, i, none⟩ := fun i => hcw.cell hb (by simp [hbS, hbF])
  obtain ⟨-, -, -, e3, e4, -⟩ := hp'.cells
  refine ⟨by rw [hz], ⟨e4, e3, (hk 0).trans c0, (hk 1).trans c1, (hk 2).trans c2, (hk 3).trans c3⟩, FD', hp', fun g hg => (hn g hg).imp id (fun h1 => by have := partsW_size w s.fin s.num (.slice ad len cap); omega), hcw⟩
set_option maxRecDepth 100000 in
set_option maxHeartbeats 400000 in
theorem record_any (h : SPic w FD G S D X Y fx fy A s) (kz : Int) (e : Ent) (hkz : kz = e.kind) (hk : e.kind < 256) (hl : e.loglet < 281474976710656) (hp : e.pos < 281474976710656) (ad : Option Addr) (len cap : Nat) (hda : Part.ok w ⟨ad, len, cap, e.data⟩) (hlen : len ≤ 65536) (hb : ∀ g ∈ dB ad, g < w.heap.size ∧ g ∉ FD) (hfew : ∀ x ∈ s.d.bs, x.vs.length ≤ 1000000)
    (hT : Takes G S D X Y fx fy A s kz e ad len cap) :
    Calls Try.prog 22 #[.pointer (some ⟨S, 0, none⟩), .agg #[.int .i64 kz, .int .i64 (e.loglet : Int), .int .i64 (e.pos : Int), .slice ad len cap]] w (RPost w FD G S D X Y s e ad) := by
  have hdl : e.data.length = len := hda.1
  have hN : e.parts = partsN (13 + len) := by unfold Ent.parts; rw [hdl]
  obtain ⟨N, hN2⟩ : ∃ N, partsN (13 + len) = N := ⟨_, rfl⟩
  have hNle : N ≤ 1000 := by rw [← hN2]; unfold partsN; omega
  have hbe := fun W => blocks_eq kz (e.loglet : Int) (e.pos : Int) ad len cap W (by omega)
  rw [hN2] at hbe hN
  have n2 := h.disk.n2
  have hfl := h.fin_le
  have hS := h.ltS
  have HKZ := hide hkz
  clear hkz
  have b2 : Below w.heap.size w ((w.alloc (.cells #[.int .i64 kz, .int .i64 (e.loglet : Int), .int .i64 (e.pos : Int), .slice ad len cap] 60)).alloc (.cells #[.int .i64 kz, .int .i64 (e.loglet : Int), .int .i64 (e.pos : Int), .slice ad len cap] 60)) := ((Below.refl _ w).alloc (Nat.le_refl _) _).alloc (by simp) _
  have h2 := h.below b2
  have hfr := free_pic h2
  by_cases hfull : s.d.bs.length < s.fin + N
  · have HX : Hid (∀ m, RPost w FD G S D X Y s e ad (.returned (.int .i64 7)) (((w.alloc (.cells #[.int .i64 kz, .int .i64 (e.loglet : Int), .int .i64 (e.pos : Int), .slice ad len cap] 60)).alloc (.cells #[.int .i64 kz, .int .i64 (e.loglet : Int), .int .i64 (e.pos : Int), .slice ad len cap] 60)).drewN m)) := fun m => by
      have hr : s.record e = (7, s) := by unfold SSt.record; rw [hN, if_pos hfull]
      unfold RPost
      rw [hr]
      have bm := below_drewN' b2 m
      exact ⟨rfl, FD, G, fx, fy, A, h.below bm, fun g hg => Or.inl hg, fun g hg => Or.inl hg, Chg.of bm⟩
    have hlt : (s.d.bs.length : Int) - (s.fin : Int) < (N : Int) := by omega
    generalize s.d.bs.length = nb at *
    clear h h2 b2 hda hb hT hfew hN hN2 hdl hfull
    go_enter Try.func22, Try.ntmps22
    go_wp2_with (first
      | (go_at_call 34; refine (hbe _).mono ?_; rintro x w' ⟨rfl, hw'⟩; obtain rfl := hw'.symm)
      | (go_at_call 8; refine hfr.mono ?_; rintro x w' ⟨rfl, m, hw'⟩; obtain rfl := hw'.symm))
    go_ret
    exact HX.out _
  · have hlt : (N : Int) ≤ (s.d.bs.length : Int) - (s.fin : Int) := by omega
    have hrow : s.rowE e = rowAt s.fin (blocksN s.num e.text) := rfl
    have HM : Hid (∀ (wb : World) (m : Nat), wb = ((w.alloc (.cells #[.int .i64 kz, .int .i64 (e.loglet : Int), .int .i64 (e.pos : Int), .slice ad len cap] 60)).alloc (.cells #[.int .i64 kz, .int .i64 (e.loglet : Int), .int .i64 (e.pos : Int), .slice ad len cap] 60)).drewN m → Below w.heap.size w wb ∧ wb.heap[w.heap.size]? = some (.cells #[.int .i64 kz, .int .i64 (e.loglet : Int), .int .i64 (e.pos : Int), .slice ad len cap] 60 (0, 0))) := fun wb m e1 => by
      subst e1
      refine ⟨below_drewN' b2 m, ?_⟩
      exact ((below_drewN' (Below.refl (w.heap.size + 1) _) m).block w.heap.size (by omega)).trans (heap_alloc2_old w _ _)
    have HFacts : Hid (∀ W, Below w.heap.size w W → W.heap[w.heap.size]? = some (.cells #[.int .i64 kz, .int .i64 (e.loglet : Int), .int .i64 (e.pos : Int), .slice ad len cap] 60 (0, 0)) → W.cell? ⟨S, 4, none⟩ = some (.int .i64 (s.fin : Int)) ∧ W.cell? ⟨S, 3, none⟩ = some (.int .i64 (s.num : Int)) ∧ W.cell? ⟨w.heap.size, 0, none⟩ = some (.int .i64 kz) ∧ W.cell? ⟨w.heap.size, 1, none⟩ = some (.int .i64 (e.loglet : Int)) ∧ W.cell? ⟨w.heap.size, 2, none⟩ = some (.int .i64 (e.pos : Int)) ∧ W.cell? ⟨w.heap.size, 3, none⟩ = some (.slice ad len cap)) := fun W hW hk => by
      obtain ⟨-, -, -, c3, c4, -⟩ := (h.below hW).cells
      exact ⟨c4, c3, cell_of_row _ _ _ _ _ _ hk, cell_of_row _ _ _ _ _ _ hk, cell_of_row _ _ _ _ _ _ hk, cell_of_row _ _ _ _ _ _ hk⟩
    have HTx : Hid (∀ W, Below w.heap.size w W → W.heap[w.heap.size]? = some (.cells #[.int .i64 kz, .int .i64 (e.loglet : Int), .int .i64 (e.pos : Int), .slice ad len cap] 60 (0, 0)) → Calls Try.prog 36 #[.agg #[.int .i64 kz, .int .i64 (e.loglet : Int), .int .i64 (e.pos : Int), .slice ad len cap]] W fun x w2 => ∃ pt : Part, x = .returned (.slice pt.ad pt.len pt.cap) ∧ Hid (Below w.heap.size w w2 ∧ w2.heap[w.heap.size]? = some (.cells #[.int .i64 kz, .int .i64 (e.loglet : Int), .int .i64 (e.pos : Int), .slice ad len cap] 60 (0, 0)) ∧ pt.l = e.text ∧ pt.ok w2 ∧ pt.len ≤ pt.cap ∧ pt.len ≤ 1000000 ∧ ∀ g ∈ dB pt.ad, g < w2.heap.size ∧ g ∉ FD)) := fun W hW hkW => by
      have ht := text4_any e.kind e.loglet e.pos ad len cap e.data W hk hl hp (hda.later hW) hlen
      unfold entV at ht
      rw [← HKZ.out] at ht
      refine ht.mono ?_
      rintro x w2 ⟨pt, rfl, e1, k1, o1, b1⟩
      have hd := own_dB o1.out
      have hlt1 : w.heap.size < W.heap.size := (Array.getElem?_eq_some_iff.1 hkW).1
      refine ⟨pt, rfl, hW.trans (b1.mono hW.size), (b1.block _ hlt1).trans hkW, e1.out, k1.out, hd.2, ?_, fun g hg => ⟨(hd.1 g hg).2, fun hm => ?_⟩⟩
      · rw [← k1.out.1, e1.out, entryN_length, hdl]; omega
      · have := h.disk.lt g hm; have h5 := (hd.1 g hg).1; omega
    have HWr : Hid (∀ (z : Int), z = (if (lastsD s.d (s.rowE e)).1 then 0 else 8) → ∀ (w2 : World) (pt : Part), (Below w.heap.size w w2 ∧ w2.heap[w.heap.size]? = some (.cells #[.int .i64 kz, .int .i64 (e.loglet : Int), .int .i64 (e.pos : Int), .slice ad len cap] 60 (0, 0)) ∧ pt.l = e.text ∧ pt.ok w2 ∧ pt.len ≤ pt.cap ∧ pt.len ≤ 1000000 ∧ ∀ g ∈ dB pt.ad, g < w2.heap.size ∧ g ∉ FD) →
        Calls Try.prog 13 #[.pointer (some ⟨S, 0, none⟩), .func (.func 48) #[] #[.pointer (some ⟨w2.heap.size + 2, 0, none⟩), .pointer (some ⟨w2.heap.size, 0, none⟩), .pointer (some ⟨w2.heap.size + 1, 0, none⟩)]] (((w2.alloc (.cells #[.int .i64 (s.fin : Int)] 3)).alloc (.cells #[.int .i64 (s.num : Int)] 3)).alloc (.cells #[.slice pt.ad pt.len pt.cap] 34)) fun x W => x = .returned (.int .i64 z) ∧ (W.cell? ⟨S, 4, none⟩ = some (.int .i64 (s.fin : Int)) ∧ W.cell? ⟨S, 3, none⟩ = some (.int .i64 (s.num : Int)) ∧ W.cell? ⟨w.heap.size, 0, none⟩ = some (.int .i64 kz) ∧ W.cell? ⟨w.heap.size, 1, none⟩ = some (.int .i64 (e.loglet : Int)) ∧ W.cell? ⟨w.heap.size, 2, none⟩ = some (.int .i64 (e.pos : Int)) ∧ W.cell? ⟨w.heap.size, 3, none⟩ = some (.slice ad len cap)) ∧
          Hid (∃ FD', SPic W FD' G S D X Y fx fy A { s with d := (lastsD s.d (s.rowE e)).2, fallen := s.fallen || !(lastsD s.d (s.rowE e)).1 } ∧ (∀ g ∈ FD', g ∈ FD ∨ w2.heap.size ≤ g) ∧ Chg (S :: FD) w2 W)) := fun z hz w2 pt ⟨p1, p2, p3, p4, p5, p6, p7⟩ => by
      obtain ⟨-, -, q0, q1, q2, q3⟩ := HFacts.out w2 p1 p2
      have hpt : Part.ok w2 ⟨pt.ad, pt.len, pt.cap, e.text⟩ := by rw [← p3]; exact p4
      exact write_at (h.below p1) pt.ad pt.len pt.cap e.text hpt p5 p6 p7 hfew w.heap.size (Array.getElem?_eq_some_iff.1 p2).1 (fun hm => absurd (h.disk.lt _ hm) (by omega)) (by omega) z hz _ _ _ _ q0 q1 q2 q3
    have HGo : Hid (∀ (w2 W : World), Below w.heap.size w w2 → Chg (S :: FD) w2 W → Chg (G ++ FD) w W) := fun w2 W p1 hc => (Chg.of (F := G ++ FD) p1).trans hc (fun k hk => Or.inl (by rcases List.mem_cons.1 hk with rfl | hk; exact List.mem_append_left _ h.mS; exact List.mem_append_right _ hk))
    have hrec : s.record e = if (lastsD s.d (s.rowE e)).1 then (0, ({ s with d := (lastsD s.d (s.rowE e)).2 } : SSt).takeE e) else (8, { s with d := (lastsD s.d (s.rowE e)).2, fallen := true }) := by unfold SSt.record; rw [hN, if_neg hfull]
    have HRe := hide hrec
    have hlast := lastsD_length s.d (s.rowE e)
    cases hok : (lastsD s.d (s.rowE e)).1 with
    | false =>
      have HX : Hid (∀ (w2 W : World), Below w.heap.size w w2 → (∃ FD', SPic W FD' G S D X Y fx fy A { s with d := (lastsD s.d (s.rowE e)).2, fallen := s.fallen || !(lastsD s.d (s.rowE e)).1 } ∧ (∀ g ∈ FD', g ∈ FD ∨ w2.heap.size ≤ g) ∧ Chg (S :: FD) w2 W) → RPost w FD G S D X Y s e ad (.returned (.int .i64 8)) W) := fun w2 W p1 ⟨FD', hp', hn, hc⟩ => by
        unfold RPost
        rw [HRe.out, hok]
        refine ⟨rfl, FD', G, fx, fy, A, ?_, fun g hg => (hn g hg).imp id (fun h5 => Nat.le_trans p1.size h5), fun g hg => Or.inl hg, HGo.out w2 W p1 hc⟩
        rw [hok] at hp'
        simpa using hp'
      have HWz := hide (HWr.out 8 (by rw [hok]; rfl))
      clear HWr HRe hrec hok hlast hrow
      generalize s.d.bs.length = nb at *
      clear h h2 b2 hda hb hT hfew hN hN2 hdl hfull
      go_enter Try.func22, Try.ntmps22
      go_wp2_with (first
        | (go_at_call 34; refine (hbe _).mono ?_; rintro x w' ⟨rfl, hw'⟩; obtain rfl := hw'.symm)
        | (go_at_call 8; refine hfr.mono ?_; rintro x wb ⟨rfl, m, hw'⟩; obtain ⟨hwb, hkb⟩ := HM.out wb m hw'; have HTd := hide (HTx.out wb.drew hwb.drew hkb); obtain ⟨k4, k3, x0, x1, x2, x3⟩ := HFacts.out wb hwb hkb; clear hw' hwb hkb))
      clear hbe hfr
      go_region_held3 (fun W => W.cell? ⟨S, 4, none⟩ = some (.int .i64 (s.fin : Int)) ∧ W.cell? ⟨S, 3, none⟩ = some (.int .i64 (s.num : Int)) ∧ W.cell? ⟨w.heap.size, 0, none⟩ = some (.int .i64 kz) ∧ W.cell? ⟨w.heap.size, 1, none⟩ = some (.int .i64 (e.loglet : Int)) ∧ W.cell? ⟨w.heap.size, 2, none⟩ = some (.int .i64 (e.pos : Int)) ∧ W.cell? ⟨w.heap.size, 3, none⟩ = some (.slice ad len cap)) (go_keep)
        (first
        | (go_at_call 36; (with_reducible_and_instances (refine HTd.out.mono ?_)); rintro x w2 ⟨pt, rfl, HP⟩; obtain ⟨k4', k3', x0', x1', x2', x3'⟩ := HFacts.out w2 HP.out.1 HP.out.2.1; have HWw := hide (HWz.out w2 pt HP.out); have z2 : w.heap.size < w2.heap.size := (Array.getElem?_eq_some_iff.1 HP.out.2.1).1; have hPW := HFacts.out (partsW w2 s.fin s.num (.slice pt.ad pt.len pt.cap)) (HP.out.1.trans ((partsW_below w2 s.fin s.num _).mono HP.out.1.size)) (((partsW_below w2 s.fin s.num _).block _ z2).trans HP.out.2.1); unfold partsW at hPW; obtain ⟨j4, j3, i0, i1, i2, i3⟩ := hPW)
        | (go_at_call 35; (with_reducible_and_instances (refine (parts_any s.fin s.num pt.ad pt.len pt.cap _).mono ?_)); rintro x w' ⟨rfl, hw'⟩; obtain rfl := hw'.symm)
        | (go_at_call 13; (with_reducible_and_instances (refine HWw.out.mono ?_)); rintro x w3 ⟨rfl, ⟨r4, r3, y0, y1, y2, y3⟩, hX3⟩))
      all_goals go_wp2
      all_goals go_ret
      all_goals exact HX.out w2 w3 HP.out.1 hX3.out
    | true =>
      have HTk : Hid (∀ (w2 W : World), Below w.heap.size w w2 → (∃ FD', SPic W FD' G S D X Y fx fy A { s with d := (lastsD s.d (s.rowE e)).2, fallen := s.fallen || !(lastsD s.d (s.rowE e)).1 } ∧ (∀ g ∈ FD', g ∈ FD ∨ w2.heap.size ≤ g) ∧ Chg (S :: FD) w2 W) →
          Calls Try.prog 26 #[.pointer (some ⟨S, 0, none⟩), .agg #[.int .i64 kz, .int .i64 (e.loglet : Int), .int .i64 (e.pos : Int), .slice ad len cap]] W fun x w4 => x = .returned (.tuple #[]) ∧ Hid (RPost w FD G S D X Y s e ad (.returned (.int .i64 0)) w4)) := fun w2 W p1 ⟨FD', hp', hn, hc⟩ => by
        rw [hok] at hp'
        have hp2 : SPic W FD' G S D X Y fx fy A { s with d := (lastsD s.d (s.rowE e)).2 } := by simpa using hp'
        have hpt : Part.ok W ⟨ad, len, cap, e.data⟩ := (hda.later p1).chg hc (fun b off e2 h0 hm => by
          have e2 : ad = some ⟨b, off, none⟩ := e2
          have hbF := hb b (by rw [e2]; simp [dB])
          rcases List.mem_cons.1 hm with h5 | h5
          · subst h5
            rcases hda.2.2.2 with h6 | ⟨b', off', e4, hlt', hcell⟩
            · exact h0 h6
            · have e4 : ad = some ⟨b', off', none⟩ := e4
              rw [e2] at e4
              cases e4
              exact h.not_byte (hcell 0 (List.length_pos_iff.2 h0))
          · exact hbF.2 h5)
        have hsz : w.heap.size ≤ W.heap.size := Nat.le_trans p1.size hc.size
        refine (hT W FD' _ hp2 hlast (by rw [hN]; omega) hpt (fun g hg => ⟨Nat.lt_of_lt_of_le (hb g hg).1 hsz, fun hm => (hn g hm).elim (hb g hg).2 (fun h5 => absurd (hb g hg).1 (by have := p1.size; omega))⟩)).mono ?_
        rintro x w4 ⟨rfl, G', fx', fy', A', hp4, hG', hc4⟩
        refine ⟨rfl, ?_⟩
        show RPost w FD G S D X Y s e ad (.returned (.int .i64 0)) w4
        unfold RPost
        rw [HRe.out, hok]
        refine ⟨rfl, FD', G', fx', fy', A', hp4, fun g hg => (hn g hg).imp id (fun h5 => Nat.le_trans p1.size h5), hG', (HGo.out w2 W p1 hc).trans hc4 (fun k hk => Or.inl (List.mem_append_left _ ?_))⟩
        simp at hk
        rcases hk with rfl | rfl | rfl
        · exact h.mS
        · exact h.mX
        · exact h.mY
      have HWz := hide (HWr.out 0 (by rw [hok]; rfl))
      clear HWr HRe hrec hok hlast hrow
      generalize s.d.bs.length = nb at *
      clear h h2 b2 hda hb hT hfew hN hN2 hdl hfull
      go_enter Try.func22, Try.ntmps22
      go_wp2_with (first
        | (go_at_call 34; refine (hbe _).mono ?_; rintro x w' ⟨rfl, hw'⟩; obtain rfl := hw'.symm)
        | (go_at_call 8; refine hfr.mono ?_; rintro x wb ⟨rfl, m, hw'⟩; obtain ⟨hwb, hkb⟩ := HM.out wb m hw'; have HTd := hide (HTx.out wb.drew hwb.drew hkb); obtain ⟨k4, k3, x0, x1, x2, x3⟩ := HFacts.out wb hwb hkb; clear hw' hwb hkb))
      clear hbe hfr
      go_region_held3 (fun W => W.cell? ⟨S, 4, none⟩ = some (.int .i64 (s.fin : Int)) ∧ W.cell? ⟨S, 3, none⟩ = some (.int .i64 (s.num : Int)) ∧ W.cell? ⟨w.heap.size, 0, none⟩ = some (.int .i64 kz) ∧ W.cell? ⟨w.heap.size, 1, none⟩ = some (.int .i64 (e.loglet : Int)) ∧ W.cell? ⟨w.heap.size, 2, none⟩ = some (.int .i64 (e.pos : Int)) ∧ W.cell? ⟨w.heap.size, 3, none⟩ = some (.slice ad len cap)) (go_keep)
        (first
        | (go_at_call 36; (with_reducible_and_instances (refine HTd.out.mono ?_)); rintro x w2 ⟨pt, rfl, HP⟩; obtain ⟨k4', k3', x0', x1', x2', x3'⟩ := HFacts.out w2 HP.out.1 HP.out.2.1; have HWw := hide (HWz.out w2 pt HP.out); have z2 : w.heap.size < w2.heap.size := (Array.getElem?_eq_some_iff.1 HP.out.2.1).1; have hPW := HFacts.out (partsW w2 s.fin s.num (.slice pt.ad pt.len pt.cap)) (HP.out.1.trans ((partsW_below w2 s.fin s.num _).mono HP.out.1.size)) (((partsW_below w2 s.fin s.num _).block _ z2).trans HP.out.2.1); unfold partsW at hPW; obtain ⟨j4, j3, i0, i1, i2, i3⟩ := hPW)
        | (go_at_call 35; (with_reducible_and_instances (refine (parts_any s.fin s.num pt.ad pt.len pt.cap _).mono ?_)); rintro x w' ⟨rfl, hw'⟩; obtain rfl := hw'.symm)
        | (go_at_call 13; (with_reducible_and_instances (refine HWw.out.mono ?_)); rintro x w3 ⟨rfl, ⟨r4, r3, y0, y1, y2, y3⟩, hX3⟩))
      all_goals go_wp2_with (go_at_call 26; (with_reducible_and_instances (refine (HTk.out w2 w3 HP.out.1 hX3.out).mono ?_)); rintro x w4 ⟨rfl, hX4⟩)
      all_goals go_ret
      all_goals exact hX4.out
end Go.Proofs.Ytoopnafdpenofaa

/- Put of package store. -/
namespace Go.Proofs.Ytoopnafdpenofaa
open Go.RowKit Go.Shelf
variable {w w' : World} {FD G : List Nat} {S D X Y : Nat} {fx fy : Lit → Option Value} {A : Nat → Nat → Value} {s : SSt}

/-- What a call that may write leaves. -/
def SPost (w : World) (FD G : List Nat) (S D X Y : Nat) (r : Int × SSt) (x : Ending) (w' : World) : Prop :=
  x = .returned (.int .i64 r.1) ∧ ∃ FD' G' fx' fy' A', SPic w' FD' G' S D X Y fx' fy' A' r.2 ∧ (∀ g ∈ FD', g ∈ FD ∨ w.heap.size ≤ g) ∧ (∀ g ∈ G', g ∈ G ∨ w.heap.size ≤ g) ∧ Chg (G ++ FD) w w'
theorem SPost.same (h : SPic w FD G S D X Y fx fy A s) (z : Int) (hb : Below w.heap.size w w') : SPost w FD G S D X Y (z, s) (.returned (.int .i64 z)) w' :=
  ⟨rfl, FD, G, fx, fy, A, h.below hb, fun _ hg => Or.inl hg, fun _ hg => Or.inl hg, Chg.of hb⟩
theorem RPost.post {e : Ent} {ad : Option Addr} {w2 : World} {x : Ending} (hb : Below w.heap.size w w2) (h : RPost w2 FD G S D X Y s e ad x w') (hd : ∀ g ∈ dB ad, w.heap.size ≤ g) : SPost w FD G S D X Y (s.record e) x w' := by
  obtain ⟨rfl, FD', G', fx', fy', A', hp, h1, h2, hc⟩ := h
  exact ⟨rfl, FD', G', fx', fy', A', hp, fun g hg => (h1 g hg).imp id (fun h => Nat.le_trans hb.size h), fun g hg => (h2 g hg).imp id (hd g), (Chg.of (F := G ++ FD) hb).trans hc (fun k hk => Or.inl hk)⟩
theorem takes1 (l p : Nat) (data : List Nat) (hl : l < 281474976710656) (hp : p < 4096) (ad : Option Addr) (len cap : Nat) (hdl : data.length = len) (hlen : data.length ≤ 65536) : Takes G S D X Y fx fy A s 1 ⟨1, l, p, data⟩ ad len cap := by
  intro W FD' d h hd hfin hpt hb
  refine (take1_pic h l p data hl hp ad len cap hpt hlen hb ?_).mono ?_
  · show s.fin + partsN (13 + len) ≤ d.bs.length
    rw [hd, ← hdl]; exact hfin
  · rintro x w' ⟨rfl, fx', fy', A', h1, h2⟩
    exact ⟨rfl, _, fx', fy', A', h1, fun g hg => (List.mem_append.1 hg).symm, h2⟩
set_option maxRecDepth 100000 in
set_option maxHeartbeats 400000 in
theorem again_any (a b : Option Addr) (la ca lb cb : Nat) (x y : List Nat) (w : World) (ha : Part.ok w ⟨a, la, ca, x⟩) (hb : Part.ok w ⟨b, lb, cb, y⟩) (z : Int) (hz : z = if x = y then 0 else 31) :
    Calls Try.prog 21 #[.slice a la ca, .slice b lb cb] w fun e w' => e = .returned (.int .i64 z) ∧ w' = w := by
  have he := equal_any a b la ca lb cb x y w ha hb
  by_cases h : x = y
  · have hd : decide (x = y) = true := by simpa using h
    rw [if_pos h] at hz
    rw [hd] at he
    subst hz
    clear h hd ha hb
    go_enter Try.func21, Try.ntmps21
    go_wp2_with (go_at_call 33; refine he.mono ?_; rintro e w' ⟨rfl, hw'⟩; obtain rfl := hw'.symm)
    go_ret
    exact ⟨rfl, rfl⟩
  · have hd : decide (x = y) = false := by simpa using h
    rw [if_neg h] at hz
    rw [hd] at he
    subst hz
    clear h hd ha hb
    go_enter Try.func21, Try.ntmps21
    go_wp2_with (go_at_call 33; refine he.mono ?_; rintro e w' ⟨rfl, hw'⟩; obtain rfl := hw'.symm)
    go_ret
    exact ⟨rfl, rfl⟩
set_option maxRecDepth 100000 in
set_option maxHeartbeats 1000000 in
theorem put_pic (h : SPic w FD G S D X Y fx fy A s) (l p : Int) (hl1 : -9223372036854775808 ≤ l) (hl2 : l ≤ 9223372036854775807) (ad : Option Addr) (len cap : Nat) (data : List Nat) (hda : Part.ok w ⟨ad, len, cap, data⟩) (hlen : len ≤ 1000000000000) (repair : Bool) (hfew : ∀ x ∈ s.d.bs, x.vs.length ≤ 1000000) :
    Calls Try.prog 9 #[.pointer (some ⟨S, 0, none⟩), .int .i64 l, .int .i64 p, .slice ad len cap, .bool repair] w (SPost w FD G S D X Y (s.put l p data repair)) := by
  have hm := smade_pic h
  have hpw := powerless_pic h
  have hdl : data.length = len := hda.1
  have HS : Hid (∀ z : Int, s.put l p data repair = (z, s) → SPost w FD G S D X Y (s.put l p data repair) (.returned (.int .i64 z)) w) := fun z hz => by rw [hz]; exact SPost.same h z (Below.refl _ _)
  by_cases hin : (isLogletN l && isPlaceN p) = true
  · have hL : isLogletN l = true := by simp only [Bool.and_eq_true] at hin; exact hin.1
    have hP : isPlaceN p = true := by simp only [Bool.and_eq_true] at hin; exact hin.2
    obtain ⟨l, rfl⟩ : ∃ n : Nat, l = n := ⟨l.toNat, by simp [isLogletN] at hL; omega⟩
    obtain ⟨p, rfl⟩ : ∃ n : Nat, p = n := ⟨p.toNat, by simp [isPlaceN] at hP; omega⟩
    have hl3 : l < 281474976710656 := by simp [isLogletN] at hL; omega
    have hp3 : p < 4096 := by simp [isPlaceN] at hP; omega
    by_cases hsz : 65536 < len
    · have HX := hide (HS.out 6 (by unfold SSt.put; rw [if_pos hin, if_pos (by omega)]))
      have hsz2 : (65536 : Int) < (len : Int) := by omega
      clear h hda hin hpw hfew HS hdl hsz hl1 hl2
      generalize s.put (l : Int) (p : Int) data repair = R at *
      go_enter Try.func9, Try.ntmps9
      go_wp2_with (first
        | (go_at_call 17; refine hm.mono ?_; rintro e w' ⟨rfl, hw'⟩; obtain rfl := hw'.symm)
        | (go_at_call 18; refine (isLoglet_any _ _).mono ?_; rintro e w' ⟨rfl, hw'⟩; obtain rfl := hw'.symm; rw [hL])
        | (go_at_call 19; refine (isPlace_any _ _).mono ?_; rintro e w' ⟨rfl, hw'⟩; obtain rfl := hw'.symm; rw [hP]))
      all_goals go_ret
      all_goals exact HX.out
    · have hln : len ≤ 65536 := by omega
      have hsz2 : (decide ((65536 : Int) < (len : Int))) = false := by simp; omega
      cases hdn : s.down with
      | true =>
        have HX := hide (HS.out 8 (by unfold SSt.put; rw [if_pos hin, if_neg (by omega), if_pos hdn]))
        rw [hdn] at hpw
        clear h hda hin hfew HS hdl hsz hl1 hl2 hdn hln hlen hl3 hp3
        generalize s.put (l : Int) (p : Int) data repair = R at *
        go_enter Try.func9, Try.ntmps9
        go_wp2_with (first
          | (go_at_call 17; refine hm.mono ?_; rintro e w' ⟨rfl, hw'⟩; obtain rfl := hw'.symm)
          | (go_at_call 18; refine (isLoglet_any _ _).mono ?_; rintro e w' ⟨rfl, hw'⟩; obtain rfl := hw'.symm; rw [hL])
          | (go_at_call 19; refine (isPlace_any _ _).mono ?_; rintro e w' ⟨rfl, hw'⟩; obtain rfl := hw'.symm; rw [hP])
          | (go_at_call 20; refine hpw.mono ?_; rintro e w' ⟨rfl, hw'⟩; obtain rfl := hw'.symm))
        all_goals go_ret
        all_goals exact HX.out
      | false =>
        rw [hdn] at hpw
        obtain ⟨x, hx0⟩ : ∃ x, s.log l = x := ⟨_, rfl⟩
        have hlY := h.lookY (l : Int) hl1 hl2
        rw [look_nat, hx0] at hlY
        unfold logV at hlY
        have hf1 := fun W => (fld52 (.int .i64 (x.tail : Int)) (.int .i64 (x.trim : Int)) (.bool x.sealed) W).2.1
        have hf2 := fun W => (fld52 (.int .i64 (x.tail : Int)) (.int .i64 (x.trim : Int)) (.bool x.sealed) W).2.2
        obtain ⟨-, c1, c2, -⟩ := h.cells
        have hlX := h.lookX l p hl3 hp3
        have hput : s.put (l : Int) (p : Int) data repair = if p < x.trim then (32, s) else match s.slots l p with | some was => if was = data then (0, s) else (31, s) | none => if x.sealed && !repair then (30, s) else s.record ⟨1, l, p, data⟩ := by
          unfold SSt.put
          rw [if_pos hin, if_neg (by omega), if_neg (by rw [hdn]; simp), Int.toNat_natCast, Int.toNat_natCast, hx0]
          cases s.slots l p <;> rfl
        have HPu := hide hput
        clear hput hx0
        by_cases htr : p < x.trim
        · have HX := hide (HS.out 32 (by rw [HPu.out, if_pos htr]))
          have htr2 : (p : Int) < (x.trim : Int) := by omega
          clear h hda hin hfew HS hdl hsz hl1 hl2 hdn HPu hln hlen hl3 hp3 htr hlX
          generalize s.put (l : Int) (p : Int) data repair = R at *
          go_enter Try.func9, Try.ntmps9
          go_wp2_with (first
            | (go_at_call 17; refine hm.mono ?_; rintro e w' ⟨rfl, hw'⟩; obtain rfl := hw'.symm)
            | (go_at_call 18; refine (isLoglet_any _ _).mono ?_; rintro e w' ⟨rfl, hw'⟩; obtain rfl := hw'.symm; rw [hL])
            | (go_at_call 19; refine (isPlace_any _ _).mono ?_; rintro e w' ⟨rfl, hw'⟩; obtain rfl := hw'.symm; rw [hP])
            | (go_at_call 20; refine hpw.mono ?_; rintro e w' ⟨rfl, hw'⟩; obtain rfl := hw'.symm))
          all_goals go_ret
          all_goals exact HX.out
        · have htr2 : (decide (p < x.trim)) = false := decide_eq_false htr
          cases hsl : s.slots l p with
          | some was =>
            obtain ⟨a2, cp2, e2, hp2, -⟩ := h.dat l p was hsl
            rw [hsl, Option.map_some, Option.getD_some, Option.isSome_some, e2] at hlX
            obtain ⟨z, hz⟩ : ∃ z : Int, z = if was = data then 0 else 31 := ⟨_, rfl⟩
            have HX := hide (HS.out z (by rw [HPu.out, if_neg htr, hsl]; simp only; rw [hz]; split <;> rfl))
            have hag := again_any a2 ad was.length cp2 len cap was data w hp2 hda z hz
            generalize was.length = lw at *
            clear h hda hin hfew HS hdl hsz hl1 hl2 hdn HPu hln hlen hl3 hp3 htr hp2 e2 hsl hz
            generalize s.put (l : Int) (p : Int) data repair = R at *
            go_enter Try.func9, Try.ntmps9
            go_wp2_with (first
              | (go_at_call 17; refine hm.mono ?_; rintro e w' ⟨rfl, hw'⟩; obtain rfl := hw'.symm)
              | (go_at_call 18; refine (isLoglet_any _ _).mono ?_; rintro e w' ⟨rfl, hw'⟩; obtain rfl := hw'.symm; rw [hL])
              | (go_at_call 19; refine (isPlace_any _ _).mono ?_; rintro e w' ⟨rfl, hw'⟩; obtain rfl := hw'.symm; rw [hP])
              | (go_at_call 20; refine hpw.mono ?_; rintro e w' ⟨rfl, hw'⟩; obtain rfl := hw'.symm)
              | (go_at_call 21; refine hag.mono ?_; rintro e w' ⟨rfl, hw'⟩; obtain rfl := hw'.symm))
            all_goals go_ret
            all_goals exact HX.out
          | none =>
            rw [hsl, Option.map_none, Option.getD_none, Option.isSome_none] at hlX
            cases hse : (x.sealed && !repair) with
            | true =>
              have HX := hide (HS.out 30 (by rw [HPu.out, if_neg htr, hsl]; simp only; rw [if_pos hse]))
              obtain ⟨h5, h6⟩ : x.sealed = true ∧ repair = false := by simpa using hse
              subst h6
              rw [h5] at hlY hf1 hf2
              clear h hda hin hfew HS hdl hsz hl1 hl2 hdn HPu hln hlen hl3 hp3 htr hsl hse h5
              generalize s.put (l : Int) (p : Int) data false = R at *
              go_enter Try.func9, Try.ntmps9
              go_wp2_with (first
                | (go_at_call 17; refine hm.mono ?_; rintro e w' ⟨rfl, hw'⟩; obtain rfl := hw'.symm)
                | (go_at_call 18; refine (isLoglet_any _ _).mono ?_; rintro e w' ⟨rfl, hw'⟩; obtain rfl := hw'.symm; rw [hL])
                | (go_at_call 19; refine (isPlace_any _ _).mono ?_; rintro e w' ⟨rfl, hw'⟩; obtain rfl := hw'.symm; rw [hP])
                | (go_at_call 20; refine hpw.mono ?_; rintro e w' ⟨rfl, hw'⟩; obtain rfl := hw'.symm))
              all_goals go_ret
              all_goals exact HX.out
            | false =>
              have hrec : s.put (l : Int) (p : Int) data repair = s.record ⟨1, l, p, data⟩ := by rw [HPu.out, if_neg htr, hsl]; simp only; rw [hse]; rfl
              rw [hrec]
              have hcl := bclone_any ad len cap data w hda (by omega)
              have HRc : Hid (∀ (w2 : World) (q : Part), Below w.heap.size w w2 → Hid (q.l = data) → Hid (Own w2 w.heap.size (.slice q.ad q.len q.cap) data) → Hid (q.ok w2) → Calls Try.prog 22 #[.pointer (some ⟨S, 0, none⟩), .agg #[.int .i64 1, .int .i64 (l : Int), .int .i64 (p : Int), .slice q.ad q.len q.cap]] w2 fun e w3 => ∃ z : Int, e = .returned (.int .i64 z) ∧ Hid (SPost w FD G S D X Y (s.record ⟨1, l, p, data⟩) e w3)) := fun w2 q hb e1 o1 k1 => by
                have hd := own_dB o1.out
                have hql : q.len = len := by rw [← k1.out.1, e1.out, hdl]
                have hqo : Part.ok w2 ⟨q.ad, q.len, q.cap, (⟨1, l, p, data⟩ : Ent).data⟩ := by have := k1.out; rw [← e1.out]; exact this
                refine (record_any (h.below hb) 1 ⟨1, l, p, data⟩ rfl (by show 1 < 256; omega) hl3 (by show p < 281474976710656; omega) q.ad q.len q.cap hqo (by omega) (fun g hg => ⟨(hd.1 g hg).2, fun hm => absurd (h.disk.lt g hm) (by have := (hd.1 g hg).1; omega)⟩) hfew (takes1 l p data hl3 hp3 q.ad q.len q.cap (by rw [hdl, hql]) (by omega))).mono ?_
                intro e w3 hr
                refine ⟨_, hr.1, hr.post hb (fun g hg => (hd.1 g hg).1)⟩
              have hcase : x.sealed = false ∨ repair = true := by cases hx : x.sealed <;> cases repair <;> simp_all
              clear h hda hin hfew HS hdl hsz hl1 hl2 hdn HPu hln hlen hl3 hp3 htr hsl hse hrec
              generalize s.record ⟨1, l, p, data⟩ = R at *
              rcases hcase with h5 | h5
              · rw [h5] at hlY hf1 hf2
                clear h5
                go_enter Try.func9, Try.ntmps9
                go_wp2_with (first
                  | (go_at_call 17; refine hm.mono ?_; rintro e w' ⟨rfl, hw'⟩; obtain rfl := hw'.symm)
                  | (go_at_call 18; refine (isLoglet_any _ _).mono ?_; rintro e w' ⟨rfl, hw'⟩; obtain rfl := hw'.symm; rw [hL])
                  | (go_at_call 19; refine (isPlace_any _ _).mono ?_; rintro e w' ⟨rfl, hw'⟩; obtain rfl := hw'.symm; rw [hP])
                  | (go_at_call 20; refine hpw.mono ?_; rintro e w' ⟨rfl, hw'⟩; obtain rfl := hw'.symm)
                  | (go_at_call 23; refine hcl.mono ?_; rintro e w2 ⟨q, rfl, e1, o1, k1, b1⟩)
                  | (go_at_call 22; (with_reducible_and_instances (refine (HRc.out w2 q b1 e1 o1 k1).mono ?_)); rintro e w3 ⟨z, rfl, hX3⟩))
                all_goals go_ret
                all_goals exact hX3.out
              · subst h5
                cases h7 : x.sealed with
                | true =>
                  rw [h7] at hlY hf1 hf2
                  clear h7
                  go_enter Try.func9, Try.ntmps9
                  go_wp2_with (first
                    | (go_at_call 17; refine hm.mono ?_; rintro e w' ⟨rfl, hw'⟩; obtain rfl := hw'.symm)
                    | (go_at_call 18; refine (isLoglet_any _ _).mono ?_; rintro e w' ⟨rfl, hw'⟩; obtain rfl := hw'.symm; rw [hL])
                    | (go_at_call 19; refine (isPlace_any _ _).mono ?_; rintro e w' ⟨rfl, hw'⟩; obtain rfl := hw'.symm; rw [hP])
                    | (go_at_call 20; refine hpw.mono ?_; rintro e w' ⟨rfl, hw'⟩; obtain rfl := hw'.symm)
                    | (go_at_call 23; refine hcl.mono ?_; rintro e w2 ⟨q, rfl, e1, o1, k1, b1⟩)
                    | (go_at_call 22; (with_reducible_and_instances (refine (HRc.out w2 q b1 e1 o1 k1).mono ?_)); rintro e w3 ⟨z, rfl, hX3⟩))
                  all_goals go_ret
                  all_goals exact hX3.out
                | false =>
                  rw [h7] at hlY hf1 hf2
                  clear h7
                  go_enter Try.func9, Try.ntmps9
                  go_wp2_with (first
                    | (go_at_call 17; refine hm.mono ?_; rintro e w' ⟨rfl, hw'⟩; obtain rfl := hw'.symm)
                    | (go_at_call 18; refine (isLoglet_any _ _).mono ?_; rintro e w' ⟨rfl, hw'⟩; obtain rfl := hw'.symm; rw [hL])
                    | (go_at_call 19; refine (isPlace_any _ _).mono ?_; rintro e w' ⟨rfl, hw'⟩; obtain rfl := hw'.symm; rw [hP])
                    | (go_at_call 20; refine hpw.mono ?_; rintro e w' ⟨rfl, hw'⟩; obtain rfl := hw'.symm)
                    | (go_at_call 23; refine hcl.mono ?_; rintro e w2 ⟨q, rfl, e1, o1, k1, b1⟩)
                    | (go_at_call 22; (with_reducible_and_instances (refine (HRc.out w2 q b1 e1 o1 k1).mono ?_)); rintro e w3 ⟨z, rfl, hX3⟩))
                  all_goals go_ret
                  all_goals exact hX3.out
  · have HX := hide (HS.out 1 (by unfold SSt.put; rw [if_neg hin]))
    cases hL : isLogletN l with
    | false =>
      clear h hda hin hfew HS hdl hl1 hl2 hpw
      generalize s.put l p data repair = R at *
      go_enter Try.func9, Try.ntmps9
      go_wp2_with (first
        | (go_at_call 17; refine hm.mono ?_; rintro e w' ⟨rfl, hw'⟩; obtain rfl := hw'.symm)
        | (go_at_call 18; refine (isLoglet_any _ _).mono ?_; rintro e w' ⟨rfl, hw'⟩; obtain rfl := hw'.symm; rw [hL]))
      all_goals go_ret
      all_goals exact HX.out
    | true =>
      have hP : isPlaceN p = false := by rw [hL] at hin; simpa using hin
      clear h hda hin hfew HS hdl hl1 hl2 hpw
      generalize s.put l p data repair = R at *
      go_enter Try.func9, Try.ntmps9
      go_wp2_with (first
        | (go_at_call 17; refine hm.mono ?_; rintro e w' ⟨rfl, hw'⟩; obtain rfl := hw'.symm)
        | (go_at_call 18; refine (isLoglet_any _ _).mono ?_; rintro e w' ⟨rfl, hw'⟩; obtain rfl := hw'.symm; rw [hL])
        | (go_at_call 19; refine (isPlace_any _ _).mono ?_; rintro e w' ⟨rfl, hw'⟩; obtain rfl := hw'.symm; rw [hP]))
      all_goals go_ret
      all_goals exact HX.out
end Go.Proofs.Ytoopnafdpenofaa

/- take of package store: a seal. -/
namespace Go.Proofs.Ytoopnafdpenofaa
open Go.RowKit
variable {w w' : World} {FD G : List Nat} {S D X Y : Nat} {fx fy : Lit → Option Value} {A : Nat → Nat → Value} {s : SSt}

set_option maxRecDepth 100000 in
set_option maxHeartbeats 400000 in
theorem take2_pic (h : SPic w FD G S D X Y fx fy A s) (l p : Nat) (hl : l < 281474976710656) (hfin : s.fin + 1 ≤ s.d.bs.length) :
    Calls Try.prog 26 #[.pointer (some ⟨S, 0, none⟩), .agg #[.int .i64 2, .int .i64 (l : Int), .int .i64 (p : Int), .slice none 0 0]] w fun x w' => x = .returned (.tuple #[]) ∧ ∃ fx' fy' A', SPic w' FD G S D X Y fx' fy' A' (s.takeE ⟨2, l, p, []⟩) ∧ Chg [S, X, Y] w w' := by
  have hS := h.ltS
  obtain ⟨-, -, -, c3, c4, -⟩ := h.cells
  have f3 := h.free 3
  have f4 := h.free 4
  obtain ⟨N, hN1⟩ : ∃ N : Nat, 1 = N := ⟨_, rfl⟩
  have hN : partsN (13 + 0) = N := by rw [← hN1]; rfl
  rw [hN1] at hfin
  have hpp : N ≤ 4096 := by have := h.disk.n2; omega
  have hnm := h.num_le
  have hfn := h.fin_le
  have hwr : IntKind.i64.wrap ((s.fin : Int) + (N : Int)) = (s.fin : Int) + (N : Int) := by rw [IntKind.wrap_i64]; omega
  have hbe := fun W => blocks_eq 2 (l : Int) (p : Int) none 0 0 W (by omega)
  rw [hN] at hbe
  have hca : Chg [S] w ((w.setCell ⟨S, 3, none⟩ (.int .i64 ((s.num : Int) + 1))).setCell ⟨S, 4, none⟩ (.int .i64 ((s.fin : Int) + (N : Int)))) := ((Chg.refl [S] w).set (Or.inl (by simp)) _ _).set (Or.inl (by simp)) _ _
  have ha : SPic ((w.setCell ⟨S, 3, none⟩ (.int .i64 ((s.num : Int) + 1))).setCell ⟨S, 4, none⟩ (.int .i64 ((s.fin : Int) + (N : Int)))) FD G S D X Y fx fy A { s with num := s.num + 1, fin := s.fin + N } := by
    refine h.setS hca (heap_setCell_same _ S 4 _ TS _ (heap_setCell_same w S 3 _ TS _ h.hS)) ?_ rfl ⟨h.ok.slots, h.ok.logs, ?_, hfin⟩ (Nat.le_succ _)
    · simp [storeV, Int.natCast_add]
    · have := h.ok.num; have h2 : 1 ≤ N := by rw [← hN]; unfold partsN; omega
      show s.num + 1 ≤ s.fin + N
      omega
  obtain ⟨Wg, hWg⟩ : ∃ Wg, ((((w.setCell ⟨S, 3, none⟩ (.int .i64 ((s.num : Int) + 1))).setCell ⟨S, 4, none⟩ (.int .i64 ((s.fin : Int) + (N : Int)))).alloc (.cells #[.int .i64 2, .int .i64 (l : Int), .int .i64 (p : Int), .slice none 0 0] 60)).alloc (.cells #[.int .i64 2, .int .i64 (l : Int), .int .i64 (p : Int), .slice none 0 0] 60)).drew = Wg := ⟨_, rfl⟩
  obtain ⟨W6, hW6⟩ : ∃ W6, (Wg.alloc (.cells #[.nilFunc, .func (.func 55) #[] #[], .func (.func 56) #[] #[], .func (.func 57) #[] #[]] 73)).drew = W6 := ⟨_, rfl⟩
  have bg : Below ((w.setCell ⟨S, 3, none⟩ (.int .i64 ((s.num : Int) + 1))).setCell ⟨S, 4, none⟩ (.int .i64 ((s.fin : Int) + (N : Int)))).heap.size ((w.setCell ⟨S, 3, none⟩ (.int .i64 ((s.num : Int) + 1))).setCell ⟨S, 4, none⟩ (.int .i64 ((s.fin : Int) + (N : Int)))) Wg := by
    rw [← hWg]
    exact (((Below.refl _ _).alloc (Nat.le_refl _) _).alloc (by simp) _).drew
  have bw : Below ((w.setCell ⟨S, 3, none⟩ (.int .i64 ((s.num : Int) + 1))).setCell ⟨S, 4, none⟩ (.int .i64 ((s.fin : Int) + (N : Int)))).heap.size ((w.setCell ⟨S, 3, none⟩ (.int .i64 ((s.num : Int) + 1))).setCell ⟨S, 4, none⟩ (.int .i64 ((s.fin : Int) + (N : Int)))) W6 := by
    rw [← hW6]
    exact (bg.alloc bg.size _).drew
  have hkg : Wg.heap[w.heap.size]? = some (.cells #[.int .i64 2, .int .i64 (l : Int), .int .i64 (p : Int), .slice none 0 0] 60 (0, 0)) := by
    rw [← hWg]
    have := heap_alloc2_old ((w.setCell ⟨S, 3, none⟩ (.int .i64 ((s.num : Int) + 1))).setCell ⟨S, 4, none⟩ (.int .i64 ((s.fin : Int) + (N : Int)))) (.cells #[.int .i64 2, .int .i64 (l : Int), .int .i64 (p : Int), .slice none 0 0] 60) (.cells #[.int .i64 2, .int .i64 (l : Int), .int .i64 (p : Int), .slice none 0 0] 60)
    simp only [World.setCell, Array.size_modify] at this
    exact this
  have g0 : Wg.cell? ⟨w.heap.size, 0, none⟩ = some (.int .i64 2) := cell_of_row _ _ _ _ _ _ hkg
  have g1 : Wg.cell? ⟨w.heap.size, 1, none⟩ = some (.int .i64 (l : Int)) := cell_of_row _ _ _ _ _ _ hkg
  have g2 : Wg.cell? ⟨w.heap.size, 2, none⟩ = some (.int .i64 (p : Int)) := cell_of_row _ _ _ _ _ _ hkg
  have g3 : Wg.cell? ⟨w.heap.size, 3, none⟩ = some (.slice none 0 0) := cell_of_row _ _ _ _ _ _ hkg
  have hgs : w.heap.size < Wg.heap.size := (Array.getElem?_eq_some_iff.1 hkg).1
  have h6 := ha.below bw
  have hcw : Chg [S] w W6 := hca.trans (Chg.of (F := [S]) bw) (fun k hk => Or.inl hk)
  have hY6 : MapF W6 3 Y s.num fy := h.hY.keep (hcw.block Y (h.lt Y h.mY) (by simpa using h.neS.2.symm))
  have hfi := sealL_pic h6 s.num (Nat.le_refl _) hY6 l p hl none 0 0
  have hfi2 : Calls Try.prog 56 #[.pointer (some ⟨S, 0, none⟩), .agg #[.int .i64 (l : Int), .int .i64 (p : Int)], .slice none 0 0] W6 fun e w' => e = .returned (.tuple #[]) ∧ (w'.cell? ⟨w.heap.size, 0, none⟩ = some (.int .i64 2) ∧ w'.cell? ⟨w.heap.size, 1, none⟩ = some (.int .i64 (l : Int)) ∧ w'.cell? ⟨w.heap.size, 2, none⟩ = some (.int .i64 (p : Int)) ∧ w'.cell? ⟨w.heap.size, 3, none⟩ = some (.slice none 0 0)) ∧ Hid (∃ fx' fy' A', SPic w' FD G S D X Y fx' fy' A' (s.takeE ⟨2, l, p, []⟩) ∧ Chg [S, X, Y] w w') := by
    refine hfi.mono ?_
    rintro e w' ⟨rfl, fy', hp', hc'⟩
    have hk7 : ∀ i, w'.cell? ⟨w.heap.size, i, none⟩ = Wg.cell? ⟨w.heap.size, i, none⟩ := fun i => by
      rw [hc'.cell (by rw [← hW6]; show w.heap.size < (Wg.alloc _).heap.size; simp; omega) (by have h8 := h.lt Y h.mY; simp; omega), ← hW6]
      exact (Below.refl Wg.heap.size Wg |>.alloc (Nat.le_refl _) _ |>.drew).cell (p := ⟨w.heap.size, i, none⟩) hgs
    refine ⟨rfl, ⟨(hk7 0).trans g0, (hk7 1).trans g1, (hk7 2).trans g2, (hk7 3).trans g3⟩, fx, fy', A, ?_, (hcw.mono (G := [S, X, Y]) (fun k hk => by simp at hk; simp [hk])).trans hc' (fun k hk => Or.inl (by simp at hk; simp [hk]))⟩
    have e1 : ({ s with num := s.num + 1, fin := s.fin + N } : SSt).sealL l = s.takeE ⟨2, l, p, []⟩ := by
      have e2 : (⟨2, l, p, []⟩ : Ent).parts = N := hN
      unfold SSt.takeE SSt.doE SSt.sealL
      rw [e2]
      rfl
    rw [← e1]
    exact hp'
  rw [← hW6] at hfi2
  have HFi := hide hfi2
  have hix := fun a b c d W => (doers_at a b c d W).2.1
  clear h hca ha bw h6 hcw hY6 hfi hfi2 hfin hW6 W6 bg hkg hN1
  go_enter Try.func26, Try.ntmps26
  go_wp2
  apply once
  case main =>
    intro hm
    go_region_with (go_at_call 34; refine (hbe _).mono ?_; rintro x w' ⟨rfl, hw'⟩; obtain rfl := hw'.symm)
    all_goals exact hm
  clear hbe c3 c4 f3 f4
  clear hWg
  go_wp2
  go_region_held3 (fun W => W.cell? ⟨w.heap.size, 0, none⟩ = some (.int .i64 2) ∧ W.cell? ⟨w.heap.size, 1, none⟩ = some (.int .i64 (l : Int)) ∧ W.cell? ⟨w.heap.size, 2, none⟩ = some (.int .i64 (p : Int)) ∧ W.cell? ⟨w.heap.size, 3, none⟩ = some (.slice none 0 0)) (go_keep)
    (first
    | (go_at_call 39; refine (doers_eq _).mono ?_; rintro x w' ⟨rfl, hw'⟩; obtain rfl := hw'.symm)
    | (go_at_call 56; (with_reducible_and_instances (refine HFi.out.mono ?_)); rintro x w7 ⟨rfl, ⟨q0, q1, q2, q3⟩, hX⟩))
  all_goals go_wp2
  all_goals exact bodyPost_end (results_none rfl _ _ _) rfl ⟨rfl, hX.out⟩
end Go.Proofs.Ytoopnafdpenofaa

/- Seal of package store (written by wip/gensealp.py). -/
namespace Go.Proofs.Ytoopnafdpenofaa
open Go.RowKit Go.Shelf
variable {w w' : World} {FD G : List Nat} {S D X Y : Nat} {fx fy : Lit → Option Value} {A : Nat → Nat → Value} {s : SSt}

theorem takes2 (l : Nat) (hl : l < 281474976710656) : Takes G S D X Y fx fy A s 2 ⟨2, l, 0, []⟩ none 0 0 := by
  intro W FD' d h hd hfin _ _
  refine (take2_pic h l 0 hl ?_).mono ?_
  · show s.fin + 1 ≤ d.bs.length
    rw [hd]; have e1 : (⟨2, l, 0, []⟩ : Ent).parts = 1 := by simp [Ent.parts, partsN]
    rw [e1] at hfin; exact hfin
  · rintro x w' ⟨rfl, fx', fy', A', h1, h2⟩
    exact ⟨rfl, _, fx', fy', A', h1, fun g hg => Or.inl hg, h2⟩
set_option maxRecDepth 100000 in
set_option maxHeartbeats 1000000 in
theorem seal_pic (h : SPic w FD G S D X Y fx fy A s) (l : Int) (hl1 : -9223372036854775808 ≤ l) (hl2 : l ≤ 9223372036854775807) (hfew : ∀ x ∈ s.d.bs, x.vs.length ≤ 1000000) :
    Calls Try.prog 15 #[.pointer (some ⟨S, 0, none⟩), .int .i64 l] w (SPost w FD G S D X Y (s.seal l)) := by
  have hm := smade_pic h
  have hpw := powerless_pic h
  have HS : Hid (∀ z : Int, s.seal l = (z, s) → SPost w FD G S D X Y (s.seal l) (.returned (.int .i64 z)) w) := fun z hz => by rw [hz]; exact SPost.same h z (Below.refl _ _)
  cases hL : isLogletN l with
  | false =>
    have HX := hide (HS.out 1 (by unfold SSt.seal; rw [hL]; rfl))
    clear h hfew HS hl1 hl2 hpw
    generalize s.seal l = R at *
    go_enter Try.func15, Try.ntmps15
    go_wp2_with (first
      | (go_at_call 17; refine hm.mono ?_; rintro e w' ⟨rfl, hw'⟩; obtain rfl := hw'.symm)
      | (go_at_call 18; refine (isLoglet_any _ _).mono ?_; rintro e w' ⟨rfl, hw'⟩; obtain rfl := hw'.symm; rw [hL]))
    all_goals go_ret
    all_goals exact HX.out
  | true =>
    obtain ⟨l, rfl⟩ : ∃ n : Nat, l = n := ⟨l.toNat, by simp [isLogletN] at hL; omega⟩
    have hl3 : l < 281474976710656 := by simp [isLogletN] at hL; omega
    cases hdn : s.down with
    | true =>
      have HX := hide (HS.out 8 (by unfold SSt.seal; rw [hL, hdn]; rfl))
      rw [hdn] at hpw
      clear h hfew HS hl1 hl2 hdn hl3
      generalize s.seal (l : Int) = R at *
      go_enter Try.func15, Try.ntmps15
      go_wp2_with (first
        | (go_at_call 17; refine hm.mono ?_; rintro e w' ⟨rfl, hw'⟩; obtain rfl := hw'.symm)
        | (go_at_call 18; refine (isLoglet_any _ _).mono ?_; rintro e w' ⟨rfl, hw'⟩; obtain rfl := hw'.symm; rw [hL])
        | (go_at_call 20; refine hpw.mono ?_; rintro e w' ⟨rfl, hw'⟩; obtain rfl := hw'.symm))
      all_goals go_ret
      all_goals exact HX.out
    | false =>
      rw [hdn] at hpw
      obtain ⟨x, hx0⟩ : ∃ x, s.log l = x := ⟨_, rfl⟩
      have hlY := h.lookY (l : Int) hl1 hl2
      rw [look_nat, hx0] at hlY
      unfold logV at hlY
      have hf2 := fun W => (fld52 (.int .i64 (x.tail : Int)) (.int .i64 (x.trim : Int)) (.bool x.sealed) W).2.2
      obtain ⟨-, -, c2, -⟩ := h.cells
      have hse : s.seal (l : Int) = if x.sealed then (0, s) else s.record ⟨2, l, 0, []⟩ := by
        unfold SSt.seal
        rw [if_pos hL, if_neg (by rw [hdn]; simp), Int.toNat_natCast, hx0]
      cases h7 : x.sealed with
      | true =>
        have HX := hide (HS.out 0 (by rw [hse, if_pos h7]))
        rw [h7] at hlY hf2
        clear h hfew HS hl1 hl2 hdn hl3 hse h7 hx0
        generalize s.seal (l : Int) = R at *
        go_enter Try.func15, Try.ntmps15
        go_wp2_with (first
          | (go_at_call 17; refine hm.mono ?_; rintro e w' ⟨rfl, hw'⟩; obtain rfl := hw'.symm)
          | (go_at_call 18; refine (isLoglet_any _ _).mono ?_; rintro e w' ⟨rfl, hw'⟩; obtain rfl := hw'.symm; rw [hL])
          | (go_at_call 20; refine hpw.mono ?_; rintro e w' ⟨rfl, hw'⟩; obtain rfl := hw'.symm))
        all_goals go_ret
        all_goals exact HX.out
      | false =>
        have hrec : s.seal (l : Int) = s.record ⟨2, l, 0, []⟩ := by rw [hse, if_neg (by rw [h7]; simp)]
        rw [hrec]
        rw [h7] at hlY hf2
        have HRc : Hid (Calls Try.prog 22 #[.pointer (some ⟨S, 0, none⟩), .agg #[.int .i64 2, .int .i64 (l : Int), .int .i64 0, .slice none 0 0]] w fun e w3 => ∃ z : Int, e = .returned (.int .i64 z) ∧ Hid (SPost w FD G S D X Y (s.record ⟨2, l, 0, []⟩) e w3)) := by
          refine (record_any h 2 ⟨2, l, 0, []⟩ rfl (by show 2 < 256; omega) hl3 (by show 0 < 281474976710656; omega) none 0 0 ⟨rfl, fun _ => ⟨rfl, rfl⟩, fun x hx => (by cases hx), Or.inl rfl⟩ (by omega) (fun g hg => (by cases hg)) hfew (takes2 l hl3)).mono ?_
          intro e w3 hr
          exact ⟨_, hr.1, hr.post (Below.refl _ _) (fun g hg => (by cases hg))⟩
        clear h hfew HS hl1 hl2 hdn hl3 hse h7 hx0 hrec
        generalize s.record ⟨2, l, 0, []⟩ = R at *
        go_enter Try.func15, Try.ntmps15
        go_wp2_with (first
          | (go_at_call 17; refine hm.mono ?_; rintro e w' ⟨rfl, hw'⟩; obtain rfl := hw'.symm)
          | (go_at_call 18; refine (isLoglet_any _ _).mono ?_; rintro e w' ⟨rfl, hw'⟩; obtain rfl := hw'.symm; rw [hL])
          | (go_at_call 20; refine hpw.mono ?_; rintro e w' ⟨rfl, hw'⟩; obtain rfl := hw'.symm)
          | (go_at_call 22; (with_reducible_and_instances (refine HRc.out.mono ?_)); rintro e w3 ⟨z, rfl, hX3⟩))
        all_goals go_ret
        all_goals exact hX3.out
end Go.Proofs.Ytoopnafdpenofaa

/- P103, Get, as a function over plain lists: the number, the place behind it, the error's number. -/
namespace Go.Proofs.Ytoopnafdpenofaa
open Go.RowKit

/-- P103, Get. -/
def getN (l : List Nat) (p size : Int) : Int × Int × Int :=
  if 1 ≤ size ∧ size ≤ 6 ∧ 0 ≤ p then
    (if p + size ≤ l.length then (((valN ((l.drop p.toNat).take size.toNat) : Nat) : Int), p + size, 0) else (0, 0, 20))
  else (0, 0, 1)
theorem getN_arg (l : List Nat) (p size : Int) (h : ¬ (1 ≤ size ∧ size ≤ 6 ∧ 0 ≤ p)) : getN l p size = (0, 0, 1) := by unfold getN; rw [if_neg h]
theorem getN_end (l : List Nat) (p size : Int) (h : 1 ≤ size ∧ size ≤ 6 ∧ 0 ≤ p) (h2 : ¬ p + size ≤ l.length) : getN l p size = (0, 0, 20) := by unfold getN; rw [if_pos h, if_neg h2]
theorem getN_ok (l : List Nat) (p s : Nat) (h : 1 ≤ s ∧ s ≤ 6) (h2 : p + s ≤ l.length) : getN l p s = (((valN ((l.drop p).take s) : Nat) : Int), ((p + s : Nat) : Int), 0) := by
  unfold getN; rw [if_pos (by omega), if_pos (by omega), Int.toNat_natCast, Int.toNat_natCast, Int.natCast_add]
end Go.Proofs.Ytoopnafdpenofaa

/- What the reader's methods pass and take answer, and what they do to the reader in memory. -/
namespace Go.Proofs.Ytoopnafdpenofaa
open Go.RowKit

/-- In w the block B is a reader of the part P, at place p. -/
def Rd (w : World) (B : Nat) (p : Int) (P : Part) : Prop := w.heap[B]? = some (.cells #[.int .i64 p, .slice P.ad P.len P.cap] 113 (0, 0))
theorem Rd.c0 {w : World} {B : Nat} {p : Int} {P : Part} (h : Rd w B p P) : w.cell? ⟨B, 0, none⟩ = some (.int .i64 p) := by rw [cell_of_row w B 0 _ _ _ h]; rfl
theorem Rd.c1 {w : World} {B : Nat} {p : Int} {P : Part} (h : Rd w B p P) : w.cell? ⟨B, 1, none⟩ = some (.slice P.ad P.len P.cap) := by rw [cell_of_row w B 1 _ _ _ h]; rfl
theorem Rd.f0 {w : World} {B : Nat} {p : Int} {P : Part} (h : Rd w B p P) : w.frozen? ⟨B, 0, none⟩ = false := frozen_of_row w B 0 _ _ h
theorem Rd.set {w : World} {B : Nat} {p q : Int} {P : Part} (h : Rd w B p P) : Rd (w.setCell ⟨B, 0, none⟩ (.int .i64 q)) B q P := by
  have e := heap_setCell_same w B 0 _ _ (.int .i64 q) h
  exact e
theorem pass_yes (B : Nat) (p : Nat) (n : Nat) (m : Nat) (P : Part) (w : World) (hr : Rd w B p P) (h : p + n ≤ m) (hm : m ≤ 1000000000000000) :
    Calls Try.prog 91 #[.pointer (some ⟨B, 0, none⟩), .int .i64 n, .int .i64 m] w fun e w' => e = .returned (.bool true) ∧ w' = w.setCell ⟨B, 0, none⟩ (.int .i64 ((p + n : Nat) : Int)) := by
  have c0 := hr.c0
  have f0 := hr.f0
  clear hr
  go_enter Try.func91, Try.ntmps91
  go_wp2
  go_ret
  exact ⟨rfl, by rw [Int.natCast_add]⟩
theorem pass_no (B : Nat) (p : Nat) (n : Nat) (m : Nat) (P : Part) (w : World) (hr : Rd w B p P) (h : ¬ p + n ≤ m) (hp : p ≤ 9223372036854775807) (hm : m ≤ 1000000000000000) :
    Calls Try.prog 91 #[.pointer (some ⟨B, 0, none⟩), .int .i64 n, .int .i64 m] w fun e w' => e = .returned (.bool false) ∧ w' = w := by
  have c0 := hr.c0
  clear hr
  have h2 : (m : Int) - p < n := by omega
  go_enter Try.func91, Try.ntmps91
  go_wp2
  go_ret
  exact ⟨rfl, rfl⟩
theorem Rd.drewN {w : World} {B : Nat} {p : Int} {P : Part} (h : Rd w B p P) (m : Nat) : Rd (w.drewN m) B p P := by
  induction m with
  | zero => exact h
  | succ m ih => exact ih
set_option maxHeartbeats 1000000 in
theorem take_raw (B p n : Nat) (P : Part) (w : World) (hr : Rd w B p P) (h : p + n ≤ P.len) (hc : P.len ≤ P.cap) (hm : P.len ≤ 1000000000000000) :
    Calls Try.prog 79 #[.pointer (some ⟨B, 0, none⟩), .int .i64 n] w fun e w' => e = .returned (.tuple #[.slice (cutP P p n).ad n (cutP P p n).cap, .int .i64 0]) ∧ ∃ m, w' = (w.setCell ⟨B, 0, none⟩ (.int .i64 ((p : Int) + (n : Int)))).drewN m := by
  have c0 := hr.c0
  have c1 := hr.c1
  have HR : Hid (Rd w B p P) := hr
  have d1 := (hr.set (q := (p : Int) + (n : Int))).c1
  have d0 := (hr.set (q := (p : Int) + (n : Int))).c0
  clear hr
  obtain ⟨ad, len, cap, l⟩ := P
  simp only at c1 d1 h hc hm
  have y1 : Hid (cap = p → (cutP ⟨ad, len, cap, l⟩ p n) = ⟨ad, n, 0, (l.drop p).take n⟩) := fun e => by unfold cutP; rw [if_pos e]
  have y2 : Hid (¬ cap = p → (cutP ⟨ad, len, cap, l⟩ p n) = ⟨ad.map (fun x => x.add p), n, cap - p, (l.drop p).take n⟩) := fun e => by unfold cutP; rw [if_neg e]
  generalize cutP ⟨ad, len, cap, l⟩ p n = Q at *
  go_enter Try.func79, Try.ntmps79
  go_wp2
  go_region_held3 (fun w' => w'.cell? ⟨B, 1, none⟩ = some (.slice ad len cap)) (go_keep)
    ((go_at_call 91; refine (pass_yes B p n len ⟨ad, len, cap, l⟩ _ ?_ h (by omega)).mono ?_; exact HR; rintro e w' ⟨rfl, rfl⟩))
  all_goals go_wp2
  all_goals go_quiet (fail)
  all_goals go_wp2
  all_goals go_ret2
  all_goals
    first
    | (have e := y1.out (by assumption); subst e; exact ⟨rfl, _, rfl⟩)
    | (have e := y2.out (by assumption); subst e; exact ⟨rfl, _, rfl⟩)
theorem take_yes (w0 : World) (B p n : Nat) (P : Part) (w : World) (ok : P.ok w0) (bel : Below w0.heap.size w0 w) (hB : w0.heap.size ≤ B) (hr : Rd w B p P) (h : p + n ≤ P.len) (hc : P.len ≤ P.cap) (hm : P.len ≤ 1000000000000000) :
    Calls Try.prog 79 #[.pointer (some ⟨B, 0, none⟩), .int .i64 n] w fun e w' => ∃ Q : Part, e = .returned (.tuple #[.slice Q.ad n Q.cap, .int .i64 0]) ∧ Hid (Q.len = n ∧ Q.l = (P.l.drop p).take n ∧ Q.ok w0 ∧ n ≤ Q.cap) ∧ Rd w' B ((p + n : Nat) : Int) P ∧ Below w0.heap.size w0 w' := by
  refine (take_raw B p n P w hr h hc hm).mono ?_
  rintro e w' ⟨rfl, m, rfl⟩
  refine ⟨cutP P p n, rfl, ⟨cutP_len P p n, cutP_l P p n, cutP_ok ok p n h hc, by rw [cutP_cap]; omega⟩, ?_, ?_⟩
  · rw [Int.natCast_add]; exact hr.set.drewN m
  · exact below_drewN' (bel.setCell hB _) m
set_option maxHeartbeats 1000000 in
theorem take_no (w0 : World) (B p n : Nat) (P : Part) (w : World) (bel : Below w0.heap.size w0 w) (hr : Rd w B p P) (h : ¬ p + n ≤ P.len) (hp : p ≤ 9223372036854775807) (hm : P.len ≤ 1000000000000000) :
    Calls Try.prog 79 #[.pointer (some ⟨B, 0, none⟩), .int .i64 n] w fun e w' => e = .returned (.tuple #[.slice none 0 0, .int .i64 20]) ∧ Rd w' B p P ∧ Below w0.heap.size w0 w' := by
  have c0 := hr.c0
  have c1 := hr.c1
  have HR : Hid (Rd w B p P) := hr
  clear hr
  obtain ⟨ad, len, cap, l⟩ := P
  simp only at c1 h hm
  go_enter Try.func79, Try.ntmps79
  go_wp2
  go_region_held3 (fun w' => w'.cell? ⟨B, 1, none⟩ = some (.slice ad len cap)) (go_keep)
    ((go_at_call 91; refine (pass_no B p n len ⟨ad, len, cap, l⟩ _ ?_ h hp hm).mono ?_; exact HR; rintro e w' ⟨rfl, rfl⟩))
  all_goals go_wp2
  all_goals go_ret2
  all_goals exact ⟨rfl, HR, bel.drew⟩
end Go.Proofs.Ytoopnafdpenofaa

/- What the reader's method number answers, and wire.Get. -/
namespace Go.Proofs.Ytoopnafdpenofaa
open Go.RowKit

set_option maxHeartbeats 1000000 in
theorem number_yes (w0 : World) (B p s : Nat) (P : Part) (w : World) (ok : P.ok w0) (bel : Below w0.heap.size w0 w) (hB : w0.heap.size ≤ B) (hr : Rd w B p P) (h1 : 1 ≤ s) (h6 : s ≤ 6) (h : p + s ≤ P.len) (hc : P.len ≤ P.cap) (hm : P.len ≤ 1000000000000000) :
    Calls Try.prog 74 #[.pointer (some ⟨B, 0, none⟩), .int .i64 s] w fun e w' => e = .returned (.tuple #[.int .i64 (valN ((P.l.drop p).take s) : Nat), .int .i64 0]) ∧ Rd w' B ((p + s : Nat) : Int) P ∧ Below w0.heap.size w0 w' := by
  have HO : Hid (P.ok w0) := ok
  have HR : Hid (Rd w B p P) := hr
  clear ok hr
  go_enter Try.func74, Try.ntmps74
  go_wp2_with fail
  refine (take_yes w0 B p s P _ HO.out bel hB HR.out h hc hm).mono ?_
  rintro e w1 ⟨Q, rfl, HQ, hr1, b1⟩
  have HR1 : Hid (Rd w1 B ((p + s : Nat) : Int) P) := hr1
  clear hr1 HR bel
  obtain ⟨ad, len, cap, l⟩ := Q
  obtain ⟨q1, q2, q3, q4⟩ := HQ.out
  simp only at q1 q2 q3 q4
  subst q1
  obtain ⟨b, off, rfl, hb, hcell⟩ := q3.cells (by omega)
  have HC : Hid (∀ i, i < len → w1.cell? ⟨b, off + i, none⟩ = some (.int .u8 (l.getD i 0 : Nat))) := fun i hi => by
    rw [b1.cell (p := ⟨b, off + i, none⟩) hb]; exact hcell i hi
  have HB : Hid (∀ x ∈ l, x < 256) := q3.2.2.1
  have HL : Hid (l.length = len) := q3.1
  have H2 : Hid (l = (P.l.drop p).take len) := q2
  clear q2 q3 hcell HQ
  simp only
  go_wp2
  go_loop [8, 22] (fun n i => ∃ k : Nat, k ≤ len ∧ i = .int .i64 k ∧ n = .int .i64 (valN (l.take k) : Nat)) (fun _ i => len - (intOf i).toNat)
  case atStart => exact ⟨0, Nat.zero_le _, rfl, rfl⟩
  case round =>
    obtain ⟨k, hk, rfl, rfl⟩ := hrel
    by_cases hlt : k < len
    · have hck := HC.out k hlt
      have hx := getD_lt HB.out k
      have HS : Hid (bits .or .i64 ((valN (l.take k) : Nat) : Int) (wrap64 ((l.getD k 0 : Int) * 2 ^ (8 * k))) = ((valN (l.take (k + 1)) : Nat) : Int)) := by
        show _ = _
        rw [take_snoc l k (by rw [HL.out]; exact hlt)]
        exact orw_step _ _ k (take_mem HB.out k) hx (by rw [List.length_take, HL.out]; omega) (by omega)
      generalize l.getD k 0 = x at *
      go_wp2
      go_round
      case rel => exact ⟨k + 1, by omega, by go_num, val_int (HS.out)⟩
      case measure => simp [intOf]; omega
    · have HV : Hid (valN (l.take k) = valN ((P.l.drop p).take len)) := by
        show _ = _
        rw [List.take_of_length_le (by rw [HL.out]; omega), H2.out]
      go_wp2
      go_ret2
      exact ⟨by rw [← HV.out]; rfl, HR1, b1⟩

set_option maxHeartbeats 1000000 in
theorem number_no (w0 : World) (B p s : Nat) (P : Part) (w : World) (bel : Below w0.heap.size w0 w) (hr : Rd w B p P) (h : ¬ p + s ≤ P.len) (hp : p ≤ 9223372036854775807) (hm : P.len ≤ 1000000000000000) :
    Calls Try.prog 74 #[.pointer (some ⟨B, 0, none⟩), .int .i64 s] w fun e w' => e = .returned (.tuple #[.int .i64 0, .int .i64 20]) ∧ Rd w' B p P ∧ Below w0.heap.size w0 w' := by
  have HR : Hid (Rd w B p P) := hr
  clear hr
  go_enter Try.func74, Try.ntmps74
  go_wp2_with fail
  refine (take_no w0 B p s P _ bel HR.out h hp hm).mono ?_
  rintro e w1 ⟨rfl, hr1, b1⟩
  have HR1 : Hid (Rd w1 B p P) := hr1
  clear hr1 HR bel
  go_wp2
  go_ret2
  exact ⟨rfl, HR1, b1⟩

theorem number_at {z : Int} (w0 : World) (B p s : Nat) (P : Part) (w : World) (hz : z = s) (ok : P.ok w0) (bel : Below w0.heap.size w0 w) (hB : w0.heap.size ≤ B) (hr : Rd w B p P) (h1 : 1 ≤ s) (h6 : s ≤ 6) (h : p + s ≤ P.len) (hc : P.len ≤ P.cap) (hm : P.len ≤ 1000000000000000) :
    Calls Try.prog 74 #[.pointer (some ⟨B, 0, none⟩), .int .i64 z] w fun e w' => e = .returned (.tuple #[.int .i64 (valN ((P.l.drop p).take s) : Nat), .int .i64 0]) ∧ Rd w' B ((p + s : Nat) : Int) P ∧ Below w0.heap.size w0 w' := by
  subst hz; exact number_yes w0 B p s P w ok bel hB hr h1 h6 h hc hm
theorem number_not {z : Int} (w0 : World) (B p s : Nat) (P : Part) (w : World) (hz : z = s) (bel : Below w0.heap.size w0 w) (hr : Rd w B p P) (h : ¬ p + s ≤ P.len) (hp : p ≤ 9223372036854775807) (hm : P.len ≤ 1000000000000000) :
    Calls Try.prog 74 #[.pointer (some ⟨B, 0, none⟩), .int .i64 z] w fun e w' => e = .returned (.tuple #[.int .i64 0, .int .i64 20]) ∧ Rd w' B p P ∧ Below w0.heap.size w0 w' := by
  subst hz; exact number_no w0 B p s P w bel hr h hp hm

theorem Rd.new (w : World) (p : Int) (P : Part) : Rd (w.alloc (.cells #[.int .i64 p, .slice P.ad P.len P.cap] 113)) w.heap.size p P := heap_alloc_new w _
end Go.Proofs.Ytoopnafdpenofaa

/- What the Go function wire.Get answers. -/
namespace Go.Proofs.Ytoopnafdpenofaa
open Go.RowKit

set_option maxHeartbeats 1000000 in
theorem get_in (ad : Option Addr) (len cap : Nat) (l : List Nat) (p s : Nat) (w : World) (hp : Part.ok w ⟨ad, len, cap, l⟩) (hlc : len ≤ cap) (hm : len ≤ 1000000000000000) (hp2 : p ≤ 9223372036854775807) (h1 : 1 ≤ s) (h6 : s ≤ 6) :
    Calls Try.prog 66 #[.slice ad len cap, .int .i64 p, .int .i64 s] w fun e w' => e = .returned (.tuple #[.int .i64 (getN l p s).1, .int .i64 (getN l p s).2.1, .int .i64 (getN l p s).2.2]) ∧ Below w.heap.size w w' := by
  have hb : (decide (1 ≤ (s : Int)) && decide ((s : Int) ≤ 6)) = true := by simp; omega
  have hlen : l.length = len := hp.1
  have HP : Hid (Part.ok w ⟨ad, len, cap, l⟩) := hp
  clear hp
  have b0 : Below w.heap.size w (w.alloc (.cells #[.int .i64 (p : Int), .slice ad len cap] 113)) := (Below.refl _ _).alloc (Nat.le_refl _) _
  have r0 : Hid (Rd (w.alloc (.cells #[.int .i64 (p : Int), .slice ad len cap] 113)) w.heap.size p ⟨ad, len, cap, l⟩) := Rd.new w p ⟨ad, len, cap, l⟩
  by_cases h2 : p + s ≤ len
  · rw [getN_ok l p s ⟨h1, h6⟩ (by omega)]
    go_enter Try.func66, Try.ntmps66
    go_wp2_with (first | (go_at_call 72; refine (isSize_any _ _).mono ?_; rintro e w' ⟨rfl, rfl⟩; rw [hb]) | (go_at_call 74; refine (number_at w' w'.heap.size p s ⟨ad, len, cap, l⟩ _ rfl HP.out b0 (Nat.le_refl _) r0.out h1 h6 h2 hlc hm).mono ?_; rintro e w1 ⟨rfl, hr1, b1⟩; have c1 := hr1.c0; clear hr1))
    go_quiet (fail)
    go_wp2
    go_ret3
    exact ⟨rfl, below_drewN' b1 _⟩
  · rw [getN_end l p s (by omega) (by omega)]
    go_enter Try.func66, Try.ntmps66
    go_wp2_with (first | (go_at_call 72; refine (isSize_any _ _).mono ?_; rintro e w' ⟨rfl, rfl⟩; rw [hb]) | (go_at_call 74; refine (number_not w' w'.heap.size p s ⟨ad, len, cap, l⟩ _ rfl b0 r0.out h2 hp2 hm).mono ?_; rintro e w1 ⟨rfl, hr1, b1⟩; clear hr1))
    go_ret3
    exact ⟨rfl, b1⟩

theorem get_any (ad : Option Addr) (len cap : Nat) (l : List Nat) (p s : Int) (w : World) (hp : Part.ok w ⟨ad, len, cap, l⟩) (hlc : len ≤ cap) (hm : len ≤ 1000000000000000) (hp2 : p ≤ 9223372036854775807) :
    Calls Try.prog 66 #[.slice ad len cap, .int .i64 p, .int .i64 s] w fun e w' => e = .returned (.tuple #[.int .i64 (getN l p s).1, .int .i64 (getN l p s).2.1, .int .i64 (getN l p s).2.2]) ∧ Below w.heap.size w w' := by
  by_cases h : 1 ≤ s ∧ s ≤ 6
  · by_cases h0 : 0 ≤ p
    · obtain ⟨k, rfl⟩ := Int.eq_ofNat_of_zero_le (show 0 ≤ s by omega)
      obtain ⟨q, rfl⟩ := Int.eq_ofNat_of_zero_le h0
      exact get_in ad len cap l q k w hp hlc hm (by omega) (by omega) (by omega)
    · rw [getN_arg l p s (by omega)]
      have hb : (decide (1 ≤ s) && decide (s ≤ 6)) = true := by simp; omega
      clear hp h
      have h1 : p < 0 := by omega
      go_enter Try.func66, Try.ntmps66
      go_wp2_with (go_at_call 72; refine (isSize_any _ _).mono ?_; rintro e w' ⟨rfl, rfl⟩; rw [hb])
      go_ret3
      exact ⟨rfl, Below.refl _ _⟩
  · rw [getN_arg l p s (by omega)]
    have hb : (decide (1 ≤ s) && decide (s ≤ 6)) = false := by
      rw [Bool.and_eq_false_iff]; simp; omega
    clear hp h
    go_enter Try.func66, Try.ntmps66
    go_wp2_with (go_at_call 72; refine (isSize_any _ _).mono ?_; rintro e w' ⟨rfl, rfl⟩; rw [hb])
    go_ret3
    exact ⟨rfl, Below.refl _ _⟩
end Go.Proofs.Ytoopnafdpenofaa

/- Small functions of package store that read blocks: numberAt, holds; readPart, gather of zeros. -/
namespace Go.Proofs.Ytoopnafdpenofaa
open Go.RowKit Go.Shelf
variable {w w' : World} {FD G : List Nat} {S D X Y : Nat} {fx fy : Lit → Option Value} {A : Nat → Nat → Value} {s : SSt}

set_option maxRecDepth 100000 in
theorem numberAt_any (ad : Option Addr) (len cap : Nat) (l : List Nat) (p z : Int) (w : World) (hp : Part.ok w ⟨ad, len, cap, l⟩) (hlc : len ≤ cap) (hm : len ≤ 1000000000000000) (hp2 : p ≤ 9223372036854775807) (r : Int) (hr : (getN l p z).1 = r) :
    Calls Try.prog 53 #[.slice ad len cap, .int .i64 p, .int .i64 z] w fun e w' => e = .returned (.int .i64 r) ∧ Below w.heap.size w w' := by
  have hg := get_any ad len cap l p z w hp hlc hm hp2
  rw [hr] at hg
  generalize (getN l p z).2.1 = a at *
  generalize (getN l p z).2.2 = b at *
  clear hp hr hp2 hm hlc
  go_enter Try.func53, Try.ntmps53
  go_wp2_with (go_at_call 66; refine hg.mono ?_; rintro e w' ⟨rfl, hb⟩)
  go_ret
  exact ⟨rfl, hb⟩
/-- Does block i hold just these bytes? -/
def holdsD (d : DSt) (i : Int) (l : List Nat) : Bool := decide ((readD d i).2 = 0) && decide ((readD d i).1 = l)
set_option maxRecDepth 100000 in
set_option maxHeartbeats 1000000 in
theorem holds_pic (h : SPic w FD G S D X Y fx fy A s) (i : Int) (ad : Option Addr) (len cap : Nat) (l : List Nat) (hp : Part.ok w ⟨ad, len, cap, l⟩) :
    Calls Try.prog 31 #[.pointer (some ⟨S, 0, none⟩), .int .i64 i, .slice ad len cap] w fun e w' => e = .returned (.bool (holdsD s.d i l)) ∧ Below w.heap.size w w' := by
  obtain ⟨B, M, Dm, V, C, hd⟩ := h.disk
  have hr := read_pic hd i
  obtain ⟨c0, -⟩ := h.cells
  have HP := hide hp
  unfold holdsD
  generalize hq : readD s.d i = q at *
  obtain ⟨t, z⟩ := q
  simp only at hr
  clear hq h hd hp
  by_cases hz : z = 0
  · subst hz
    simp only [decide_true, Bool.true_and]
    go_enter Try.func31, Try.ntmps31
    go_wp2_with (first
      | (go_at_call 46; refine hr.mono ?_; rintro e w2 ⟨v, rfl, ho, hb⟩; obtain ⟨a2, c2, rfl, k2, -⟩ := ho.slice t.length rfl; have HB := hide hb; have he := equal_any a2 ad t.length c2 len cap t l w2 k2 (HP.out.later hb); clear ho k2 hb)
      | (go_at_call 33; refine he.mono ?_; rintro e w3 ⟨rfl, hw'⟩; obtain rfl := hw'.symm))
    all_goals go_ret
    all_goals exact ⟨rfl, HB.out⟩
  · have hne : (z == 0) = false := by simpa using hz
    have hdz : (decide (z = 0) && decide (t = l)) = false := by simp [hz]
    simp only [hdz]
    go_enter Try.func31, Try.ntmps31
    go_wp2_with (go_at_call 46; refine hr.mono ?_; rintro e w2 ⟨v, rfl, ho, hb⟩; have HB := hide hb; clear ho hb)
    all_goals go_ret
    all_goals exact ⟨rfl, HB.out⟩
theorem zeros_11 : (getN zeros 11 1).1 = 0 := by decide +kernel
theorem zeros_9 : (getN zeros 9 2).1 = 0 := by decide +kernel
set_option maxRecDepth 100000 in
set_option maxHeartbeats 1000000 in
/-- readPart of zeros: no parts, no bytes. -/
theorem readPart_zeros (ad : Option Addr) (cap : Nat) (w : World) (hp : Part.ok w ⟨ad, 256, cap, zeros⟩) (hc : 256 ≤ cap) : Calls Try.prog 52 #[.slice ad 256 cap] w fun e w' => ∃ a c, e = .returned (.tuple #[.int .i64 0, .slice a 0 c]) ∧ Hid (a = none → c = 0) ∧ Below w.heap.size w w' := by
  have h11 := fun W (hW : Below w.heap.size w W) => numberAt_any ad 256 cap zeros 11 1 W (hp.later hW) hc (by omega) (by omega) 0 zeros_11
  have h9 := fun W (hW : Below w.heap.size w W) => numberAt_any ad 256 cap zeros 9 2 W (hp.later hW) hc (by omega) (by omega) 0 zeros_9
  have H11 := hide h11
  have H9 := hide h9
  have HA : Hid (ad ≠ none) := fun e => by
    have := hp.2.1 e
    simp at this
  have hne : ¬ cap = 12 := by omega
  have hmin : min (0 : Int) 240 = 0 := rfl
  have hw1 : IntKind.i64.wrap (12 + 0) = 12 := rfl
  have hw2 : IntKind.i64.wrap 12 = 12 := rfl
  have hsl : ∀ W : World, (Instr.slice 34 (.slice ad 256 cap) (some (.int .i64 12)) (some (.int .i64 12)) none).run Try.prog W = .ok (.slice (ad.map fun x => x.add 12) 0 (cap - 12)) W := fun W => by
    have := hc
    rw [run_slice_lh (w := W) 34 ad 256 cap (by kernel_rfl) .i64 .i64 12 12 (by omega) (by omega) (by omega)]
    simp [go_sem, hne]
  have hle : (12 : Int) ≤ (cap : Int) := by omega
  clear h11 h9 hp
  go_enter Try.func52, Try.ntmps52
  go_wp2_with (go_at_call 53; refine (H11.out _ (Below.refl _ _)).mono ?_; rintro e w2 ⟨rfl, hb2⟩; have HB2 := hide hb2; clear hb2)
  go_region_held3 (fun _ => True) (exact trivial) ((go_at_call 53; refine (H9.out _ HB2.out.drew).mono ?_; rintro e w3 ⟨rfl, hb3⟩; have HB3 := hide (HB2.out.drew.trans (hb3.mono HB2.out.drew.size)); clear hb3))
  all_goals go_wp2
  all_goals go_ret2
  all_goals refine ⟨_, _, rfl, fun e => ?_, HB3.out⟩
  all_goals exact absurd e (by cases had : ad; exact absurd had HA.out; simp)
set_option maxRecDepth 100000 in
set_option maxHeartbeats 400000 in
/-- gather at a block of zeros, or behind the last one: nothing. -/
theorem gather_zeros (h : SPic w FD G S D X Y fx fy A s) (hz : readD s.d (s.fin : Int) = (zeros, 0) ∨ (readD s.d (s.fin : Int)).2 ≠ 0) : Calls Try.prog 37 #[.pointer (some ⟨S, 0, none⟩)] w fun e w' => ∃ v, e = .returned v ∧ Own w' w.heap.size v [] ∧ Below w.heap.size w w' := by
  obtain ⟨c0, -, -, -, c4, -⟩ := h.cells
  have hfl := h.fin_le
  obtain ⟨B, M, Dm, V, C, hd⟩ := h.disk
  have hr := read_pic (hd.below (Below.refl _ w).drew) (s.fin : Int)
  have hwr : IntKind.i64.wrap (s.fin : Int) = (s.fin : Int) := by rw [IntKind.wrap_i64]; omega
  clear h hd
  rcases hz with hz | hz
  · rw [hz] at hr
    clear hz
    go_enter Try.func37, Try.ntmps37
    go_wp2
    go_loopw [3, 4, 5] (fun t k c wr => (t = .slice none 0 0 ∧ k = .int .i64 0 ∧ c = .int .i64 1 ∧ wr = w) ∨ (k = .int .i64 1 ∧ c = .int .i64 0 ∧ Hid (Own wr w.heap.size t []) ∧ Hid (Below w.heap.size w wr))) (fun _ k _ _ => 1 - (intOf k).toNat)
    case atStart => exact Or.inl ⟨rfl, rfl, rfl, rfl⟩
    case round =>
      rcases hrel with ⟨rfl, rfl, rfl, rfl⟩ | ⟨rfl, rfl, HO, HB⟩
      · go_wp2
        go_region_with (go_at_call 46; (with_reducible_and_instances (refine hr.mono ?_)); rintro e w2 ⟨v, rfl, ho, hb⟩; obtain ⟨a2, c2, rfl, k2, hc2, -⟩ := ho.slice 256 zeros_ok.1; have HB2 := hide (((Below.refl wr.heap.size wr).drew).trans hb); have HRp := hide (readPart_zeros a2 c2 w2 k2 hc2); clear ho k2 hb hc2)
        all_goals go_wp2_with (first
          | (go_at_call 52; (with_reducible_and_instances (refine HRp.out.mono ?_)); rintro e w3 ⟨a, c, rfl, hac, hb3⟩; have HB3 := hide (HB2.out.trans (hb3.mono HB2.out.size)); clear hb3)
          | (at_builtin; refine app_any rfl _ _ rfl wr.heap.size (.slice none 0 0) 0 [] rfl (World.ownsRow_nil _ _ _ _) a 0 c [] rfl rfl (fun e => ⟨rfl, hac.out e⟩) ⟨fun x hx => (by cases hx), Or.inl rfl⟩ (by omega) HB3.out.size ?_; intro v4 w4 o4 g4; have HO4 : Hid (Own w4 wr.heap.size v4 []) := ⟨fun x hx => (by cases hx), o4⟩; have HB4 := hide (HB3.out.grown g4 HB3.out.size (fun k hk => (by simp [Value.ownBlock] at hk))); clear o4 g4))
        all_goals go_roundw
        all_goals first
          | exact Or.inr ⟨rfl, rfl, HO4, HB4⟩
          | (simp [intOf])
      · go_wp2
        go_ret
        exact ⟨_, rfl, HO.out, HB.out⟩
  · generalize readD s.d (s.fin : Int) = q at *
    obtain ⟨t0, z⟩ := q
    simp only at hr hz
    have hne : (z == 0) = false := by simpa using hz
    clear hz
    go_enter Try.func37, Try.ntmps37
    go_wp2
    go_loopw [3, 4, 5] (fun t k c wr => t = .slice none 0 0 ∧ k = .int .i64 0 ∧ c = .int .i64 1 ∧ wr = w) (fun _ _ _ _ => 0)
    case atStart => exact ⟨rfl, rfl, rfl, rfl⟩
    case round =>
      obtain ⟨rfl, rfl, rfl, rfl⟩ := hrel
      go_wp2
      go_region_with (go_at_call 46; (with_reducible_and_instances (refine hr.mono ?_)); rintro e w2 ⟨v, rfl, ho, hb⟩; have HB2 := hide (((Below.refl wr.heap.size wr).drew).trans hb); clear ho hb)
      all_goals go_wp2
      all_goals go_ret
      all_goals exact ⟨_, rfl, Own.nil _ _, HB2.out⟩
end Go.Proofs.Ytoopnafdpenofaa

/- next and load of package store where no entry stands. -/
namespace Go.Proofs.Ytoopnafdpenofaa
open Go.RowKit Go.Shelf
attribute [local go_sem] Oper.semAt_some
variable {w w' : World} {FD G : List Nat} {S D X Y : Nat} {fx fy : Lit → Option Value} {A : Nat → Nat → Value} {s : SSt}

/-- No entry. -/
def ent0 : Value := .agg #[.int .i64 0, .int .i64 0, .int .i64 0, .slice none 0 0]
set_option maxRecDepth 100000 in
theorem readEntry0 (ad : Option Addr) (cap : Nat) (w : World) : Calls Try.prog 38 #[.slice ad 0 cap] w fun e w' => e = .returned (.tuple #[ent0, .bool false]) ∧ Below w.heap.size w w' := by
  unfold ent0
  go_enter Try.func38, Try.ntmps38
  go_wp2
  refine bodyPost_ret (v := .tuple #[.agg #[.int .i64 0, .int .i64 0, .int .i64 0, .slice none 0 0], .bool false]) (by simp [results, Try.results38, go_sem]) rfl ⟨rfl, ?_⟩
  exact (Below.refl _ w).alloc (Nat.le_refl _) _
/-- What next keeps while its loop runs. -/
def NI (w Z : World) : Prop := Below w.heap.size w Z ∧ Blk Z (w.heap.size + 1) #[.int .i64 0, .int .i64 0, .int .i64 0, .slice none 0 0] 60 ∧ Blk Z (w.heap.size + 2) #[.bool false] 4
theorem NI.chg {Z Z' : World} {F : List Nat} (h : NI w Z) (hc : Chg F Z Z') (hF : ∀ g ∈ F, w.heap.size + 3 ≤ g) : NI w Z' := by
  obtain ⟨h1, h2, h3⟩ := h
  refine ⟨?_, h2.chg hc (fun hm => absurd (hF _ hm) (by omega)), h3.chg hc (fun hm => absurd (hF _ hm) (by omega))⟩
  exact ⟨hc.os.trans h1.os, hc.tape.trans h1.tape, hc.output.trans h1.output, Nat.le_trans h1.size hc.size, fun k hk => (hc.block k (Nat.lt_of_lt_of_le hk h1.size) (fun hm => absurd (hF _ hm) (by omega))).trans (h1.block k hk)⟩
set_option maxRecDepth 100000 in
set_option maxHeartbeats 400000 in
theorem next0_pic (h : SPic w FD G S D X Y fx fy A s) (hz : readD s.d (s.fin : Int) = (zeros, 0) ∨ (readD s.d (s.fin : Int)).2 ≠ 0) : Calls Try.prog 25 #[.pointer (some ⟨S, 0, none⟩)] w fun e w' => e = .returned (.tuple #[ent0, .bool false]) ∧ Below w.heap.size w w' := by
  have hfl := h.fin_le
  have hnl := h.num_le
  obtain ⟨W3, hW3⟩ : ∃ W3, ((w.alloc (.cells #[.pointer (some ⟨S, 0, none⟩)] 27)).alloc (.cells #[.int .i64 0, .int .i64 0, .int .i64 0, .slice none 0 0] 60)).alloc (.cells #[.bool false] 4) = W3 := ⟨_, rfl⟩
  have hb3 : Below w.heap.size w W3 := by rw [← hW3]; exact (((Below.refl _ w).alloc (Nat.le_refl _) _).alloc (by simp) _).alloc (by simp; omega) _
  have hs3 : W3.heap.size = w.heap.size + 3 := by rw [← hW3]; simp
  have hB3 : Blk W3 w.heap.size #[.pointer (some ⟨S, 0, none⟩)] 27 ∧ NI w W3 := by
    rw [← hW3] at hb3 ⊢
    exact ⟨(three_blocks w _ _ _).1, hb3, (three_blocks w _ _ _).2.1, (three_blocks w _ _ _).2.2⟩
  have h3 := h.below hb3
  have hga := gather_zeros h3 hz
  have hbx := hB3.1.cell 0
  have HG2 : Hid (∀ (w2 : World) (v : Value), Own w2 W3.heap.size v [] → Below W3.heap.size W3 w2 → ∃ ad c, v = .slice ad 0 c ∧ w2.cell? ⟨w.heap.size, 0, none⟩ = some (.pointer (some ⟨S, 0, none⟩)) ∧ w2.cell? ⟨S, 4, none⟩ = some (.int .i64 (s.fin : Int)) ∧ w2.cell? ⟨S, 3, none⟩ = some (.int .i64 (s.num : Int)) ∧ Hid (NI w w2 ∧ w.heap.size + 3 ≤ w2.heap.size ∧ Part.ok w2 ⟨ad, 0, c, []⟩ ∧ ∀ g ∈ dB ad, g < w2.heap.size)) := fun w2 v ho hb => by
    obtain ⟨ad, c, rfl, k2, -⟩ := ho.slice 0 rfl
    obtain ⟨-, -, -, d3, d4, -⟩ := (h3.below hb).cells
    have hd := own_dB (p := ⟨ad, 0, c, []⟩) ho
    refine ⟨ad, c, rfl, (hb.cell (p := ⟨w.heap.size, 0, none⟩) (by show w.heap.size < _; omega)).trans hbx, d4, d3, ?_, by have := hb.size; omega, k2, fun g hg => (hd.1 g hg).2⟩
    exact hB3.2.chg (F := []) (Chg.of hb) (fun g hg => (by cases hg))
  clear h h3 hz hb3 hB3
  refine (callsIn_wide (n := 3)).1 ?_
  refine callsIn_of_wp_marks Try.func25 rfl trivial ?_ rfl
  simp only [Try.ntmps25, List.size_toArray, List.length_cons, List.length_nil, Nat.reduceAdd, Nat.reduceSub, Array.replicate_succ, Array.replicate_zero, List.push_toArray, List.append_toArray, List.nil_append, List.cons_append]
  gi_wp2_with (refine ⟨trivial, ?_⟩; gi_at_call 37; refine (callsIn_wide.2 hga).mono ?_; rintro e w2 ⟨v, rfl, ho, hb⟩; obtain ⟨ad, c, rfl, q0, q4, q3, HQ⟩ := HG2.out w2 v ho hb; clear ho hb)
  apply once
  case main =>
    intro hm
    refine wpIn_mono (Q := NoPanic _) ?_ NoPanic.imp
    gi_region_with (refine ⟨trivial, ?_⟩; gi_at_call 35; refine (callsIn_wide.2 (parts_any s.fin s.num ad 0 c _)).mono ?_; rintro e w' ⟨rfl, hw'⟩; obtain rfl := hw'.symm)
    all_goals exact NoPanic.normal hm
  obtain ⟨Wq, hWq⟩ : ∃ Wq, (partsW w2 s.fin s.num (.slice ad 0 c)).drew = Wq := ⟨_, rfl⟩
  have hsq : Wq.heap.size = w2.heap.size + 3 := by rw [← hWq]; exact partsW_size _ _ _ _
  have hbq : Below w2.heap.size w2 Wq := by rw [← hWq]; exact (partsW_below w2 s.fin s.num _).drew
  have hseq := (partsW_seq w2 (fun _ _ => True) s.fin s.num ad 0 c [] HQ.out.2.2.1 (Nat.zero_le _) (by omega) (by omega) (by omega) HQ.out.2.2.2).later (w1 := Wq) (by rw [← hWq]; exact (Below.refl _ _).drew)
  have HSq := hide hseq
  have HNq := hide (HQ.out.1.chg (F := []) (Chg.of hbq) (fun g hg => (by cases hg)))
  have hz2 := HQ.out.2.1
  unfold partsW at hWq
  clear hseq hbq HG2 hga
  gi_wp2
  rw [hWq]
  clear hWq
  have hlen0 : (rowAt s.fin (blocksN s.num [])).length = 0 := rfl
  refine range_R (w2.heap.size + 3) hsq (gf := 48) rfl enters_parts HSq.out (fun h k => h.trans k) ?kb (fun _ Z => NI w Z) (fun _ _ => False) ?hI (fun _ _ _ h _ => h) (fun _ _ _ => trivial) HNq.out ?hps ?hRc
    (fun args => { tmps := #[.pointer (some ⟨S, 0, none⟩), .pointer (some ⟨w.heap.size, 0, none⟩), .pointer (some ⟨w.heap.size + 1, 0, none⟩), .pointer (some ⟨w.heap.size + 1 + 1, 0, none⟩), .slice ad 0 c, args.getD 0 undef, args.getD 1 undef, .pointer (some ⟨S, 0, none⟩), .slice ad 0 c, .pointer (some ⟨S, 0, none⟩), .pointer (some ⟨S, 0, none⟩), .pointer (some ⟨S, 4, none⟩), .int .i64 (s.fin : Int), .pointer (some ⟨S, 0, none⟩), .pointer (some ⟨S, 0, none⟩), .pointer (some ⟨S, 3, none⟩), .int .i64 (s.num : Int), .slice ad 0 c, .func (.func 48) #[] #[.pointer (some ⟨w2.heap.size + 2, 0, none⟩), .pointer (some ⟨w2.heap.size, 0, none⟩), .pointer (some ⟨w2.heap.size + 1, 0, none⟩)], args.getD 0 undef, args.getD 1 undef, undef, undef, undef, undef, undef, undef, undef, undef, undef, undef], defers := [] }) ?assign ?body ?done ?stop
  case kb =>
    intro Z o hZ
    refine ⟨by simp, fun g hg => World.putObj_heap_other ?_⟩
    rcases List.mem_append.1 hg with h1 | h1
    · simp at h1; omega
    · have := HQ.out.2.2.2 g h1; omega
  case hI => exact fun k Z Z' h1 hc => h1.chg hc (fun g hg => by simp at hg; omega)
  case hps =>
    rintro k args Z ⟨x, q, hx, rfl, _⟩
    rfl
  case hRc =>
    rintro k args Z o ⟨x, q, hx, rfl, hl, hq⟩ ho o'
    exact ⟨x, q, hx, rfl, hl, part_putObj hq ho o'⟩
  case assign =>
    rintro l k args Z L ⟨x, q, hx, rfl, _⟩ hL
    clear HQ HSq HNq hx
    gi_wp2
    exact hL
  case body =>
    intro l k args Z hk
    exact absurd hk (by rw [hlen0]; omega)
  case stop =>
    intro k Z hk hx
    exact hx.elim
  case done =>
    rintro Z hZ hN hD
    obtain ⟨hbz, b1, b2⟩ := hN
    have HB1 := hide b1
    have HB2 := hide b2
    have HBz := hide hbz
    have HD := hide hD
    have hre := readEntry0 ad c Z
    unfold ent0 at hre
    clear HQ HSq HNq hD b1 b2 hbz
    gi_wp2_with (refine ⟨trivial, ?_⟩; gi_at_call 38; refine (callsIn_wide.2 hre).mono ?_; rintro e Z2 ⟨rfl, hb2⟩; have H1 := hide (HB1.out.later hb2); have H2 := hide (HB2.out.later hb2); have H3 := hide (HBz.out.trans (hb2.mono HBz.out.size)); have H4 := hide ((hb2.block _ (Array.getElem?_eq_some_iff.1 HD.out).1).trans HD.out); have c0 := H1.out.cell 0; have c1 := H1.out.cell 1; have c2 := H1.out.cell 2; have c3 := H1.out.cell 3; have f0 := H1.out.free 0; have f1 := H1.out.free 1; have f2 := H1.out.free 2; have f3 := H1.out.free 3; have d0 : Z2.cell? ⟨w.heap.size + 1 + 1, 0, none⟩ = some (.bool false) := H2.out.cell 0; have e0 : Z2.frozen? ⟨w.heap.size + 1 + 1, 0, none⟩ = false := H2.out.free 0; clear hb2)
    obtain ⟨Zf, hZf⟩ : ∃ Zf, ((((Z2.setCell ⟨w.heap.size + 1, 0, none⟩ (.int .i64 0)).setCell ⟨w.heap.size + 1, 1, none⟩ (.int .i64 0)).setCell ⟨w.heap.size + 1, 2, none⟩ (.int .i64 0)).setCell ⟨w.heap.size + 1, 3, none⟩ (.slice none 0 0)).setCell ⟨w.heap.size + 1 + 1, 0, none⟩ (.bool false) = Zf := ⟨_, rfl⟩
    have k1 : Blk Zf (w.heap.size + 1) #[.int .i64 0, .int .i64 0, .int .i64 0, .slice none 0 0] 60 := by
      rw [← hZf]
      exact ((((H1.out.set 0 (.int .i64 0)).set 1 (.int .i64 0)).set 2 (.int .i64 0)).set 3 (.slice none 0 0)).other (by omega) 0 _
    have k2 : Blk Zf (w.heap.size + 2) #[.bool false] 4 := by
      rw [← hZf]
      exact ((((H2.out.other (by omega) 0 _).other (by omega) 1 _).other (by omega) 2 _).other (by omega) 3 _).set 0 (.bool false)
    have hcf : Chg [w.heap.size + 1, w.heap.size + 2] Z2 Zf := by
      rw [← hZf]
      exact (((((Chg.refl _ Z2).set (Or.inl (by simp)) _ _).set (Or.inl (by simp)) _ _).set (Or.inl (by simp)) _ _).set (Or.inl (by simp)) _ _).set (Or.inl (by simp)) _ _
    have hDf : Zf.heap[w2.heap.size + 3]? = some (.deferred (some [])) := (hcf.block _ (Array.getElem?_eq_some_iff.1 H4.out).1 (by simp; omega)).trans H4.out
    have hpc : Chg [w2.heap.size + 3, w2.heap.size + 3 + 1] Zf (Zf.putObj (w2.heap.size + 3) (.deferred none)) := putObj_chg Zf _ _ _ (Or.inl rfl)
    have m1 := k1.chg hpc (by simp; omega)
    have m2 := k2.chg hpc (by simp; omega)
    have r0 := m1.cell 0
    have r1 := m1.cell 1
    have r2 := m1.cell 2
    have r3 := m1.cell 3
    have r4 : (Zf.putObj (w2.heap.size + 3) (.deferred none)).cell? ⟨w.heap.size + 1 + 1, 0, none⟩ = some (.bool false) := m2.cell 0
    have hbf : Below w.heap.size w (Zf.putObj (w2.heap.size + 3) (.deferred none)) := H3.out.trans (((hcf.below (N := w.heap.size) (by intro g hg; simp at hg; omega) H3.out.size)).trans (hpc.below (by intro g hg; simp at hg; omega) (Nat.le_trans H3.out.size hcf.size)))
    rw [hZf]
    refine ⟨by simp, .inl ⟨_, _, rfl, run_takeDeferred hDf, ?_⟩⟩
    refine ⟨.tuple #[ent0, .bool false], ?_, rfl, hbf⟩
    simp [results, Try.results25, go_sem, r0, r1, r2, r3, r4, ent0]
set_option maxRecDepth 100000 in
set_option maxHeartbeats 1000000 in
/-- load where no entry stands. -/
theorem load0_pic (h : SPic w FD G S D X Y fx fy A s) (hz : readD s.d (s.fin : Int) = (zeros, 0) ∨ (readD s.d (s.fin : Int)).2 ≠ 0) : Calls Try.prog 12 #[.pointer (some ⟨S, 0, none⟩)] w fun e w' => e = .returned (.tuple #[]) ∧ Below w.heap.size w w' := by
  have hn := next0_pic h hz
  unfold ent0 at hn
  clear h hz
  go_enter Try.func12, Try.ntmps12
  go_wp2
  go_loopw [2, 3] (fun _ _ wr => wr = w) (fun _ _ _ => 0)
  case atStart => exact rfl
  case round =>
    obtain rfl := hrel
    go_wp2_with (go_at_call 25; refine hn.mono ?_; rintro e w2 ⟨rfl, hb⟩)
    exact bodyPost_ret (results_none rfl _ _ _) rfl ⟨rfl, hb.alloc hb.size _⟩
end Go.Proofs.Ytoopnafdpenofaa

/- leftovers of package store where all behind the end is zeros: no round. -/
namespace Go.Proofs.Ytoopnafdpenofaa
open Go.RowKit Go.Shelf
attribute [local go_sem] Oper.semAt_some
variable {w w' : World} {FD G : List Nat} {S D X Y : Nat} {fx fy : Lit → Option Value} {A : Nat → Nat → Value} {s : SSt}

/-- In Z the store is as it was. -/
def LK (G : List Nat) (S D X Y : Nat) (fx fy : Lit → Option Value) (A : Nat → Nat → Value) (s : SSt) (Z : World) : Prop := ∃ FD', SPic Z FD' G S D X Y fx fy A s
theorem enters_left : ∀ args w, (callFunc 30 args).run Try.prog w = .ok (.enter 30 args) w := enters_of Try.func30 (by kernel_rfl) rfl
set_option maxRecDepth 100000 in
set_option maxHeartbeats 400000 in
theorem left0_seq (g : Nat) (Kp : World → World → Prop) (R : Nat → Array Value → World → Prop) (hg : g < w.heap.size) (cg : w.cell? ⟨g, 0, none⟩ = some (.pointer (some ⟨S, 0, none⟩))) (hz : ∀ i : Nat, s.fin ≤ i → i < s.d.bs.length → holdsD s.d (i : Int) zeros = true) :
    SeqR Try.prog 30 #[.pointer (some ⟨g, 0, none⟩)] Kp (fun _ Z => LK G S D X Y fx fy A s Z) R 0 w := by
  intro l J Jx W hW hJ _ hK _ h0
  obtain ⟨FD', hp⟩ := hK 0 W h0
  have hfl := hp.fin_le
  have n2 := hp.disk.n2
  have cW := (hW.cell (p := ⟨g, 0, none⟩) hg).trans cg
  have hgW : g < W.heap.size := Nat.lt_of_lt_of_le hg hW.size
  have hSW := hp.ltS
  obtain ⟨ZB, hZB⟩ : ∃ ZB : Obj, ZB = .cells (madeCells #[Value.int .u8 0] 256) 5 := ⟨_, rfl⟩
  have hmk : ∀ W : World, (Instr.makeSlice 34 (.int .i64 256) (.int .i64 256)).run Try.prog W = .ok (.slice (some ⟨W.heap.size, 0, none⟩) 256 256) (W.alloc ZB) := fun W => by
    rw [hZB]
    exact run_make_row' 34 5 (.int .u8 0) 1 Try.underlying34 Try.info5 rfl .i64 .i64 256 (by omega) (by omega) W
  have bz : Below W.heap.size W (W.alloc ZB) := (Below.refl _ _).alloc (Nat.le_refl _) _
  have HZ : Hid (Part.ok (W.alloc ZB) ⟨some ⟨W.heap.size, 0, none⟩, 256, 256, zeros⟩) := (show Hid _ from by rw [hZB]; exact made_ok W 256 (by omega))
  have HF : Hid (∀ Z, Below (W.alloc ZB).heap.size (W.alloc ZB) Z → Z.cell? ⟨g, 0, none⟩ = some (.pointer (some ⟨S, 0, none⟩)) ∧ Z.cell? ⟨S, 4, none⟩ = some (.int .i64 (s.fin : Int)) ∧ Z.cell? ⟨S, 0, none⟩ = some (.pointer (some ⟨D, 0, none⟩)) ∧ Hid (SPic Z FD' G S D X Y fx fy A s ∧ Part.ok Z ⟨some ⟨W.heap.size, 0, none⟩, 256, 256, zeros⟩)) := fun Z hZ => by
    have hbZ : Below W.heap.size W Z := bz.trans (hZ.mono (by simp))
    obtain ⟨d0, -, -, -, d4, -⟩ := (hp.below hbZ).cells
    exact ⟨(hbZ.cell (p := ⟨g, 0, none⟩) hgW).trans cW, d4, d0, hp.below hbZ, HZ.out.later hZ⟩
  have HJ0 := hide (fun Z (hZ : Below (W.alloc ZB).heap.size (W.alloc ZB) Z) => hJ 0 W Z h0 (bz.trans (hZ.mono (by simp))))
  have HZz := hide hz
  have HBl : Hid (∀ Z, SPic Z FD' G S D X Y fx fy A s → Calls Try.prog 10 #[.pointer (some ⟨D, 0, none⟩)] Z fun e w' => e = .returned (.int .i64 (s.d.bs.length : Nat)) ∧ w' = Z) := fun Z hp' => by
    obtain ⟨B, M, Dm, V, C, hd⟩ := hp'.disk
    exact blocks_pic hd
  obtain ⟨q0, q4, qD, HQ⟩ := HF.out (W.alloc ZB) (Below.refl _ _)
  generalize s.d.bs.length = nb at *
  clear hp hW hJ hK h0 cg cW hz hZB bz
  refine callsIn_of_wp Try.func30 rfl trivial ?_ rfl
  simp only [Try.ntmps30, List.size_toArray, List.length_cons, List.length_nil, Nat.reduceAdd, Nat.reduceSub, Array.replicate_succ, Array.replicate_zero, List.push_toArray, List.append_toArray, List.nil_append, List.cons_append]
  gi_wp2
  gi_loopw [4] (fun i wr => ∃ k : Nat, s.fin ≤ k ∧ k ≤ 4096 ∧ i = .int .i64 k ∧ Hid (Below (W.alloc ZB).heap.size (W.alloc ZB) wr)) (fun i _ => 5000 - (intOf i).toNat)
  case atStart => exact ⟨s.fin, Nat.le_refl _, hfl, rfl, hide (Below.refl _ _)⟩
  case round =>
    obtain ⟨k, hk1, hk2, rfl, HB⟩ := hrel
    obtain ⟨p0, p4, pD, HP⟩ := HF.out wr HB.out
    have hbl := HBl.out wr HP.out.1
    by_cases hlt : k < nb
    · have hho := holds_pic HP.out.1 (k : Int) _ 256 256 zeros HP.out.2
      rw [HZz.out k hk1 hlt] at hho
      gi_wp2_with (first
        | (refine ⟨trivial, ?_⟩; gi_at_call 10; refine (callsIn_wide.2 hbl).mono ?_; rintro e w' ⟨rfl, hw'⟩; obtain rfl := hw'.symm)
        | (refine ⟨trivial, ?_⟩; gi_at_call 31; refine (callsIn_wide.2 hho).mono ?_; rintro e w3 ⟨rfl, hb3⟩; have HB3 := hide (HB.out.trans (hb3.mono HB.out.size)); clear hb3))
      refine ⟨fun _ h => (by cases h), ?_⟩
      gi_wp2
      go_roundw
      case rel => exact ⟨k + 1, by omega, by omega, by go_num, HB3⟩
      case measure => simp [intOf]; omega
    · gi_wp2_with (refine ⟨trivial, ?_⟩; gi_at_call 10; refine (callsIn_wide.2 hbl).mono ?_; rintro e w' ⟨rfl, hw'⟩; obtain rfl := hw'.symm)
      go_end0
      exact ⟨⟨_, rfl⟩, .inl (HJ0.out _ HB.out)⟩
end Go.Proofs.Ytoopnafdpenofaa

/- Open of package store, of a disk that is all zeros. -/
namespace Go.Proofs.Ytoopnafdpenofaa
open Go.RowKit Go.Shelf
variable {w w' : World}

/-- A store that has nothing. -/
def sst0 (d : DSt) : SSt := ⟨d, fun _ _ => none, fun _ => none, 0, 0, false⟩
theorem sst0_ok (d : DSt) : (sst0 d).ok := ⟨fun _ _ _ h => (by cases h), fun _ _ h => (by cases h), Nat.le_refl _, Nat.zero_le _⟩
/-- A store in its three new blocks. -/
theorem open_spic {FD : List Nat} {D : Nat} {d : DSt} (hd : Dk w FD D d) : SPic (((w.alloc (.map #[] 0)).alloc (.map #[] 0)).alloc (.cells (storeV D w.heap.size (w.heap.size + 1) 0 0 false) TS)) FD [w.heap.size, w.heap.size + 1, w.heap.size + 2] (w.heap.size + 2) D w.heap.size (w.heap.size + 1) (fun _ => none) (fun _ => none) (fun _ _ => .slice none 0 0) (sst0 d) := by
  have hb : Below w.heap.size w (((w.alloc (.map #[] 0)).alloc (.map #[] 0)).alloc (.cells (storeV D w.heap.size (w.heap.size + 1) 0 0 false) TS)) := (((Below.refl _ w).alloc (Nat.le_refl _) _).alloc (by simp) _).alloc (by simp; omega) _
  obtain ⟨k1, k2, k3⟩ : (((w.alloc (.map #[] 0)).alloc (.map #[] 0)).alloc (.cells (storeV D w.heap.size (w.heap.size + 1) 0 0 false) TS)).heap[w.heap.size]? = some (.map #[] 0) ∧ (((w.alloc (.map #[] 0)).alloc (.map #[] 0)).alloc (.cells (storeV D w.heap.size (w.heap.size + 1) 0 0 false) TS)).heap[w.heap.size + 1]? = some (.map #[] 0) ∧ (((w.alloc (.map #[] 0)).alloc (.map #[] 0)).alloc (.cells (storeV D w.heap.size (w.heap.size + 1) 0 0 false) TS)).heap[w.heap.size + 2]? = some (.cells (storeV D w.heap.size (w.heap.size + 1) 0 0 false) TS (0, 0)) := three_blocks w _ _ _
  refine ⟨sst0_ok d, hd.below hb, k3, MapF.empty k1, MapF.empty k2, fun _ _ _ _ => rfl, fun _ _ _ h => (by cases h), fun _ => rfl, fun _ _ h => (by cases h), by simp, by simp, by simp, by omega, fun g hg hm => ?_, fun g hg => ?_⟩
  · have := hd.lt g hm; simp at hg; omega
  · simp at hg ⊢; omega
theorem zero_read {d : DSt} {i : Nat} (ho : d.off = false) (hz : ∀ x ∈ d.bs, x = b0) (hi : i < d.bs.length) : readD d (i : Int) = (zeros, 0) := by
  refine readD_free ho hi ?_
  have : d.at i = b0 := hz _ (at_mem hi)
  rw [this]; rfl
set_option maxRecDepth 100000 in
set_option maxHeartbeats 1000000 in
theorem open_new {FD : List Nat} {D : Nat} {d : DSt} (hd : Dk w FD D d) (ho : d.off = false) (hz : ∀ x ∈ d.bs, x = b0) :
    Calls Try.prog 5 #[.pointer (some ⟨D, 0, none⟩)] w fun e w' => ∃ S, e = .returned (.tuple #[.pointer (some ⟨S, 0, none⟩), .int .i64 0]) ∧ ∃ FD' G X Y fx fy A, SPic w' FD' G S D X Y fx fy A (sst0 d) ∧ (∀ g ∈ FD', g ∈ FD ∨ w.heap.size ≤ g) ∧ (∀ g ∈ G, w.heap.size ≤ g) ∧ Chg FD w w' := by
  obtain ⟨B, M, Dm, V, C, hpd⟩ := hd
  have hbl := blocks_pic hpd
  have hdn := down_pic hpd
  rw [ho] at hdn
  have n1 := hpd.n1
  have hd : Dk w FD D d := ⟨B, M, Dm, V, C, hpd⟩
  have hmm : ∀ (t : TypeId) (w : World), (Instr.makeMap t none).run Try.prog w = .ok (.map (some w.heap.size)) (w.alloc (.map #[] 0)) := fun t w => run_makeMap _ w
  have h3 := open_spic hd
  obtain ⟨W3, hW3⟩ : ∃ W3, ((w.alloc (.map #[] 0)).alloc (.map #[] 0)).alloc (.cells (storeV D w.heap.size (w.heap.size + 1) 0 0 false) TS) = W3 := ⟨_, rfl⟩
  have b3 : Below w.heap.size w W3 := by rw [← hW3]; exact (((Below.refl _ w).alloc (Nat.le_refl _) _).alloc (by simp) _).alloc (by simp; omega) _
  have hs3 : W3.heap.size = w.heap.size + 3 := by rw [← hW3]; simp
  rw [hW3] at h3
  have hrd : readD (sst0 d).d ((sst0 d).fin : Int) = (zeros, 0) := zero_read ho hz (by show 0 < d.bs.length; omega)
  have hld := load0_pic h3 (Or.inl hrd)
  have HWr : Hid (∀ W4, Below W3.heap.size W3 W4 → Calls Try.prog 13 #[.pointer (some ⟨w.heap.size + 2, 0, none⟩), .func (.func 30) #[] #[.pointer (some ⟨W4.heap.size, 0, none⟩)]] (W4.alloc (.cells #[.pointer (some ⟨w.heap.size + 2, 0, none⟩)] 27)) fun e w5 => e = .returned (.int .i64 0) ∧ Hid (∃ FD' G X Y fx fy A, SPic w5 FD' G (w.heap.size + 2) D X Y fx fy A (sst0 d) ∧ (∀ g ∈ FD', g ∈ FD ∨ w.heap.size ≤ g) ∧ (∀ g ∈ G, w.heap.size ≤ g) ∧ Chg FD w w5)) := fun W4 b4 => by
    have b5 : Below W4.heap.size W4 (W4.alloc (.cells #[.pointer (some ⟨w.heap.size + 2, 0, none⟩)] 27)) := (Below.refl _ _).alloc (Nat.le_refl _) _
    have h5 := (h3.below b4).below b5
    have hbl5 : Below w.heap.size w (W4.alloc (.cells #[.pointer (some ⟨w.heap.size + 2, 0, none⟩)] 27)) := b3.trans ((b4.mono b3.size).trans (b5.mono (Nat.le_trans b3.size b4.size)))
    have hseq := left0_seq (w := W4.alloc (.cells #[.pointer (some ⟨w.heap.size + 2, 0, none⟩)] 27)) (G := [w.heap.size, w.heap.size + 1, w.heap.size + 2]) (S := w.heap.size + 2) (D := D) (X := w.heap.size) (Y := w.heap.size + 1) (fx := fun _ => none) (fy := fun _ => none) (A := fun _ _ => .slice none 0 0) (s := sst0 d) W4.heap.size (Kg []) (RowR []) (by simp) (cell_of_row _ _ _ _ _ _ (heap_alloc_last W4 _)) (fun i _ hi => by
      show holdsD d (i : Int) zeros = true
      unfold holdsD
      rw [zero_read ho hz hi]
      simp)
    refine (write_any h5 30 _ enters_left [] [] _ hseq (fun g hg => (by cases hg)) ?_ ?_ (by simp)).mono ?_
    · rintro k Z b ⟨FD', hp, _⟩ _
      refine ⟨FD', ?_⟩
      have e : midD (sst0 d).d [] k = (sst0 d).d := by unfold midD; simp [writesD]
      rw [e] at hp
      exact hp
    · intro x hx
      rw [hz x hx]
      simp [b0]
    · rintro e w5 ⟨rfl, FD', hp, hn, hc⟩
      have e1 : lastsD (sst0 d).d [] = (true, (sst0 d).d) := rfl
      rw [e1] at hp
      refine ⟨by rw [e1]; rfl, FD', [w.heap.size, w.heap.size + 1, w.heap.size + 2], _, _, _, _, _, hp, fun g hg => (hn g hg).imp id (fun h => Nat.le_trans hbl5.size h), fun g hg => (by simp at hg; omega), ?_⟩
      exact (Chg.of (F := FD) hbl5).trans hc (fun k hk => by
        rcases List.mem_cons.1 hk with rfl | hk
        · exact Or.inr (by omega)
        · exact Or.inl hk)
  have hW4 : ((w.alloc (.map #[] 0)).alloc (.map #[] 0)).alloc (.cells #[.pointer (some ⟨D, 0, none⟩), .map (some w.heap.size), .map (some (w.heap.size + 1)), .int .i64 0, .int .i64 0, .bool false] TS) = W3 := hW3
  have hld2 : Calls Try.prog 12 #[.pointer (some ⟨w.heap.size + 1 + 1, 0, none⟩)] W3 fun e w' => e = .returned (.tuple #[]) ∧ Below W3.heap.size W3 w' := hld
  have HWr2 : Hid (∀ W4, Below W3.heap.size W3 W4 → Calls Try.prog 13 #[.pointer (some ⟨w.heap.size + 1 + 1, 0, none⟩), .func (.func 30) #[] #[.pointer (some ⟨W4.heap.size, 0, none⟩)]] (W4.alloc (.cells #[.pointer (some ⟨w.heap.size + 1 + 1, 0, none⟩)] 27)) fun e w5 => e = .returned (.int .i64 0) ∧ Hid (∃ FD' G X Y fx fy A, SPic w5 FD' G (w.heap.size + 2) D X Y fx fy A (sst0 d) ∧ (∀ g ∈ FD', g ∈ FD ∨ w.heap.size ≤ g) ∧ (∀ g ∈ G, w.heap.size ≤ g) ∧ Chg FD w w5)) := HWr
  clear hW3 hld HWr
  generalize d.bs.length = nb at *
  have hnz : ((nb : Int) == 0) = false := by simp; omega
  clear h3 hpd hd hrd b3 hs3
  go_enter Try.func5, Try.ntmps5
  go_wp2_with (first
    | (go_at_call 10; refine hbl.mono ?_; rintro e w' ⟨rfl, hw'⟩; obtain rfl := hw'.symm)
    | (go_at_call 11; refine hdn.mono ?_; rintro e w' ⟨rfl, hw'⟩; obtain rfl := hw'.symm)
    | (go_at_call 12; refine hld2.mono ?_; rintro e W4 ⟨rfl, b4⟩; have HB4 := hide b4; clear b4)
    | (go_at_call 14; refine (leftovers_any _ _).mono ?_; rintro e w' ⟨rfl, hw'⟩; obtain rfl := hw'.symm)
    | (go_at_call 13; (with_reducible_and_instances (refine (HWr2.out W4 HB4.out).mono ?_)); rintro e w5 ⟨rfl, hX⟩))
  go_ret2
  exact ⟨w.heap.size + 2, rfl, hX.out⟩
end Go.Proofs.Ytoopnafdpenofaa

/- Stores whose disk has power and no fuse: what becomes of them, and what the statements' knows must come to. -/
namespace Go.Proofs.Ytoopnafdpenofaa
open Go.RowKit Go.Shelf

def DSt.clean (d : DSt) : Prop := ∀ x ∈ d.bs, x.vs = []
theorem writes_free (xs : List (Nat × List Nat)) : ∀ (d : DSt), d.free → (∀ x ∈ xs, x.1 < d.bs.length ∧ x.2.length = 256) → (writesD d xs).1 = true ∧ (writesD d xs).2.free := by
  induction xs with
  | nil => intro d h _; exact ⟨rfl, h⟩
  | cons x r ih =>
    intro d h hx
    have h1 := hx x (by simp)
    have h2 := writeD_free h h1.1 h1.2
    simp only [writesD, h2, if_true]
    refine ih _ ⟨h.on, h.none⟩ (fun y hy => ?_)
    rw [setB_len]
    exact hx y (by simp [hy])
theorem lasts_free {d : DSt} (h : d.free) (hc : d.clean) (xs : List (Nat × List Nat)) (hx : ∀ x ∈ xs, x.1 < d.bs.length ∧ x.2.length = 256) : (lastsD d xs).1 = true ∧ (lastsD d xs).2.free ∧ (lastsD d xs).2.clean := by
  obtain ⟨h1, h2⟩ := writes_free xs d h hx
  unfold lastsD
  rw [if_pos h1]
  split
  · exact ⟨rfl, h, hc⟩
  · rw [syncD_free h2]
    refine ⟨rfl, ⟨h2.on, h2.none⟩, fun x hx => ?_⟩
    obtain ⟨y, _, rfl⟩ := List.mem_map.1 hx
    exact sync_vs y
theorem SSt.rowE_ok (s : SSt) (e : Ent) (h : s.fin + e.parts ≤ s.d.bs.length) : ∀ x ∈ s.rowE e, x.1 < s.d.bs.length ∧ x.2.length = 256 := by
  intro x hx
  obtain ⟨k, hk⟩ := List.getElem?_of_mem hx
  unfold SSt.rowE at hk
  rw [rowAt_at] at hk
  have hk2 : k < (blocksN s.num e.text).length := by
    rcases Nat.lt_or_ge k (blocksN s.num e.text).length with h1 | h1
    · exact h1
    · rw [List.getElem?_eq_none h1] at hk; cases hk
  rw [blocksN_length] at hk2
  rw [blocksN_at _ _ _ hk2] at hk
  cases hk
  have h3 : partsN e.text.length = e.parts := by rw [Ent.text_length]; rfl
  refine ⟨by show s.fin + k < _; omega, partN_length _ _ _ _ (pieceN_length _ _)⟩
theorem takeE_d (s : SSt) (e : Ent) : (s.takeE e).d = s.d := by
  unfold SSt.takeE SSt.doE SSt.fill SSt.sealL SSt.giveUp
  simp only
  split
  · split <;> rfl
  · split <;> rfl
theorem record_free {s : SSt} (h : s.d.free) (hc : s.d.clean) (e : Ent) (hr : s.fin + e.parts ≤ s.d.bs.length) : ∃ d, s.record e = (0, ({ s with d := d } : SSt).takeE e) ∧ d.free ∧ d.clean ∧ d.bs.length = s.d.bs.length := by
  obtain ⟨h1, h2, h3⟩ := lasts_free h hc (s.rowE e) (s.rowE_ok e hr)
  refine ⟨(lastsD s.d (s.rowE e)).2, ?_, h2, h3, lastsD_length _ _⟩
  unfold SSt.record
  rw [if_neg (by omega), if_pos h1]
theorem record_full {s : SSt} (e : Ent) (hr : s.d.bs.length < s.fin + e.parts) : s.record e = (7, s) := by unfold SSt.record; rw [if_pos hr]
theorem record_keeps {s : SSt} (h : s.d.free) (hc : s.d.clean) (e : Ent) : (s.record e).2.d.free ∧ (s.record e).2.d.clean := by
  by_cases hr : s.d.bs.length < s.fin + e.parts
  · rw [record_full e hr]; exact ⟨h, hc⟩
  · obtain ⟨d, h1, h2, h3, _⟩ := record_free h hc e (by omega)
    rw [h1]
    simp only [takeE_d]
    exact ⟨h2, h3⟩
theorem put_keeps {s : SSt} (h : s.d.free) (hc : s.d.clean) (l p : Int) (data : List Nat) (r : Bool) : (s.put l p data r).2.d.free ∧ (s.put l p data r).2.d.clean := by
  unfold SSt.put
  repeat' split
  all_goals first
    | exact ⟨h, hc⟩
    | exact record_keeps h hc _
theorem seal_keeps {s : SSt} (h : s.d.free) (hc : s.d.clean) (l : Int) : (s.seal l).2.d.free ∧ (s.seal l).2.d.clean := by
  unfold SSt.seal
  repeat' split
  all_goals first
    | exact ⟨h, hc⟩
    | exact record_keeps h hc _
theorem new_free (n : Nat) : (newD n).free ∧ (newD n).clean ∧ ∀ x ∈ (newD n).bs, x = b0 := by
  have h : ∀ x ∈ (newD n).bs, x = b0 := fun x hx => (List.mem_replicate.1 hx).2
  exact ⟨⟨rfl, rfl⟩, fun x hx => by rw [h x hx]; rfl, h⟩
/-- A store that can be written, all of whose blocks lie from N on. -/
def SA (N : Nat) (w : World) (S : Nat) (s : SSt) : Prop := (∃ FD G D X Y fx fy A, SPic w FD G S D X Y fx fy A s ∧ (∀ g ∈ FD, N ≤ g) ∧ (∀ g ∈ G, N ≤ g)) ∧ s.d.free ∧ s.d.clean
variable {w w' : World} {N S : Nat} {s : SSt}
theorem SA.later (h : SA N w S s) (hb : Below w.heap.size w w') : SA N w' S s := by
  obtain ⟨⟨FD, G, D, X, Y, fx, fy, A, hp, h1, h2⟩, h3⟩ := h
  exact ⟨⟨FD, G, D, X, Y, fx, fy, A, hp.below hb, h1, h2⟩, h3⟩
theorem SPost.sa {FD G : List Nat} {D X Y : Nat} {r : Int × SSt} {x : Ending} (h : SPost w FD G S D X Y r x w') (h1 : ∀ g ∈ FD, N ≤ g) (h2 : ∀ g ∈ G, N ≤ g) (hN : N ≤ w.heap.size) (hf : r.2.d.free ∧ r.2.d.clean) : x = .returned (.int .i64 r.1) ∧ SA N w' S r.2 ∧ Below N w w' := by
  obtain ⟨rfl, FD', G', fx', fy', A', hp, k1, k2, hc⟩ := h
  exact ⟨rfl, ⟨⟨FD', G', D, X, Y, fx', fy', A', hp, fun g hg => (k1 g hg).elim (h1 g) (fun h => Nat.le_trans hN h), fun g hg => (k2 g hg).elim (h2 g) (fun h => Nat.le_trans hN h)⟩, hf⟩, hc.below (fun g hg => (List.mem_append.1 hg).elim (h2 g) (h1 g)) hN⟩
theorem SA.put (h : SA N w S s) (hN : N ≤ w.heap.size) (l p : Int) (hl1 : -9223372036854775808 ≤ l) (hl2 : l ≤ 9223372036854775807) (ad : Option Addr) (len cap : Nat) (data : List Nat) (hda : Part.ok w ⟨ad, len, cap, data⟩) (hlen : len ≤ 1000000000000) (repair : Bool) :
    Calls Try.prog 9 #[.pointer (some ⟨S, 0, none⟩), .int .i64 l, .int .i64 p, .slice ad len cap, .bool repair] w fun x w' => x = .returned (.int .i64 (s.put l p data repair).1) ∧ SA N w' S (s.put l p data repair).2 ∧ Below N w w' := by
  obtain ⟨⟨FD, G, D, X, Y, fx, fy, A, hp, h1, h2⟩, h3, h4⟩ := h
  refine (put_pic hp l p hl1 hl2 ad len cap data hda hlen repair (fun x hx => by rw [h4 x hx]; simp)).mono ?_
  intro x w' hx
  exact hx.sa h1 h2 hN (put_keeps h3 h4 l p data repair)
theorem SA.seal (h : SA N w S s) (hN : N ≤ w.heap.size) (l : Int) (hl1 : -9223372036854775808 ≤ l) (hl2 : l ≤ 9223372036854775807) :
    Calls Try.prog 15 #[.pointer (some ⟨S, 0, none⟩), .int .i64 l] w fun x w' => x = .returned (.int .i64 (s.seal l).1) ∧ SA N w' S (s.seal l).2 ∧ Below N w w' := by
  obtain ⟨⟨FD, G, D, X, Y, fx, fy, A, hp, h1, h2⟩, h3, h4⟩ := h
  refine (seal_pic hp l hl1 hl2 (fun x hx => by rw [h4 x hx]; simp)).mono ?_
  intro x w' hx
  exact hx.sa h1 h2 hN (seal_keeps h3 h4 l)
theorem SA.freeC (h : SA N w S s) : Calls Try.prog 8 #[.pointer (some ⟨S, 0, none⟩)] w fun x w' => x = .returned (.int .i64 ((s.d.bs.length : Int) - (s.fin : Int))) ∧ Below w.heap.size w w' := by
  obtain ⟨⟨FD, G, D, X, Y, fx, fy, A, hp, h1, h2⟩, h3, h4⟩ := h
  refine (free_pic hp).mono ?_
  rintro x w' ⟨rfl, m, rfl⟩
  exact ⟨rfl, below_drewN' (Below.refl _ _) m⟩
theorem SA.tailC (h : SA N w S s) (i : Int) (h1 : -9223372036854775808 ≤ i) (h2 : i ≤ 9223372036854775807) : Calls Try.prog 16 #[.pointer (some ⟨S, 0, none⟩), .int .i64 i] w fun x w' => x = .returned (.int .i64 ((s.look i).tail : Nat)) ∧ Below w.heap.size w w' := by
  obtain ⟨⟨FD, G, D, X, Y, fx, fy, A, hp, _, _⟩, h3, h4⟩ := h
  exact tail_pic hp i h1 h2
theorem SA.open {D : Nat} {FD : List Nat} {n : Nat} (hd : Dk w FD D (newD n)) (hF : ∀ g ∈ FD, N ≤ g) (hN : N ≤ w.heap.size) : Calls Try.prog 5 #[.pointer (some ⟨D, 0, none⟩)] w fun x w' => ∃ S, x = .returned (.tuple #[.pointer (some ⟨S, 0, none⟩), .int .i64 0]) ∧ SA N w' S (sst0 (newD n)) ∧ Below N w w' := by
  obtain ⟨f1, f2, f3⟩ := new_free n
  refine (open_new hd f1.on f3).mono ?_
  rintro x w' ⟨S, rfl, FD', G, X, Y, fx, fy, A, hp, k1, k2, hc⟩
  exact ⟨S, rfl, ⟨⟨FD', G, D, X, Y, fx, fy, A, hp, fun g hg => (k1 g hg).elim (hF g) (fun h => Nat.le_trans hN h), fun g hg => Nat.le_trans hN (k2 g hg)⟩, f1, f2⟩, hc.below hF hN⟩
end Go.Proofs.Ytoopnafdpenofaa

/- What the statements' knows must come to, over plain data. -/
namespace Go.Proofs.Ytoopnafdpenofaa
open Go.RowKit Go.Shelf

theorem knowsM : ∃ s1 s2 s3 : SSt, (sst0 (newD 8)).put 1 0 [97] false = (0, s1) ∧ s1.put 1 0 [98] false = (31, s1) ∧ s1.seal 1 = (0, s2) ∧ s2.put 1 1 [99] false = (30, s2) ∧ s2.put 1 1 [99] true = (0, s3) ∧ (s3.d.bs.length : Int) - (s3.fin : Int) = 5 ∧ (s3.look 1).tail = 2 := by
  obtain ⟨f0, c0, _⟩ := new_free 8
  have n8 : (newD 8).bs.length = 8 := List.length_replicate
  obtain ⟨d1, r1, f1, c1, l1⟩ := record_free (s := sst0 (newD 8)) f0 c0 ⟨1, 1, 0, [97]⟩ (by show 0 + partsN 14 ≤ (newD 8).bs.length; rw [n8]; decide)
  have e1 : ({ sst0 (newD 8) with d := d1 } : SSt).takeE ⟨1, 1, 0, [97]⟩ = ⟨d1, fun i q => if i = 1 ∧ q = 0 then some [97] else none, fun j => if j = 1 then some ⟨1, 0, false⟩ else none, 1, 1, false⟩ := by
    simp [SSt.takeE, SSt.doE, SSt.fill, sst0, SSt.log, l0, SSt.setLog, SSt.setSlot, Ent.parts, partsN]
  rw [e1] at r1
  have l1' : d1.bs.length = 8 := by rw [l1]; exact n8
  obtain ⟨d2, r2, f2, c2, l2⟩ := record_free (s := ⟨d1, fun i q => if i = 1 ∧ q = 0 then some [97] else none, fun j => if j = 1 then some ⟨1, 0, false⟩ else none, 1, 1, false⟩) f1 c1 ⟨2, 1, 0, []⟩ (by show 1 + partsN 13 ≤ d1.bs.length; rw [l1']; decide)
  have e2 : ({ d := d2, slots := fun i q => if i = 1 ∧ q = 0 then some [97] else none, logs := fun j => if j = 1 then some ⟨1, 0, false⟩ else none, num := 1, fin := 1, fallen := false } : SSt).takeE ⟨2, 1, 0, []⟩ = ⟨d2, fun i q => if i = 1 ∧ q = 0 then some [97] else none, fun j => if j = 1 then some ⟨1, 0, true⟩ else none, 2, 2, false⟩ := by
    simp [SSt.takeE, SSt.doE, SSt.sealL, SSt.log, SSt.setLog, Ent.parts, partsN]
    funext j
    split <;> rfl
  have r2' : (⟨d1, fun i q => if i = 1 ∧ q = 0 then some [97] else none, fun j => if j = 1 then some ⟨1, 0, false⟩ else none, 1, 1, false⟩ : SSt).record ⟨2, 1, 0, []⟩ = (0, ⟨d2, fun i q => if i = 1 ∧ q = 0 then some [97] else none, fun j => if j = 1 then some ⟨1, 0, true⟩ else none, 2, 2, false⟩) := by rw [← e2]; exact r2
  have l2' : d2.bs.length = 8 := by rw [l2]; exact l1'
  obtain ⟨d3, r3, f3, c3, l3⟩ := record_free (s := ⟨d2, fun i q => if i = 1 ∧ q = 0 then some [97] else none, fun j => if j = 1 then some ⟨1, 0, true⟩ else none, 2, 2, false⟩) f2 c2 ⟨1, 1, 1, [99]⟩ (by show 2 + partsN 14 ≤ d2.bs.length; rw [l2']; decide)
  have l3' : d3.bs.length = 8 := by rw [l3]; exact l2'
  refine ⟨⟨d1, fun i q => if i = 1 ∧ q = 0 then some [97] else none, fun j => if j = 1 then some ⟨1, 0, false⟩ else none, 1, 1, false⟩, ⟨d2, fun i q => if i = 1 ∧ q = 0 then some [97] else none, fun j => if j = 1 then some ⟨1, 0, true⟩ else none, 2, 2, false⟩, ({ d := d3, slots := fun i q => if i = 1 ∧ q = 0 then some [97] else none, logs := fun j => if j = 1 then some ⟨1, 0, true⟩ else none, num := 2, fin := 2, fallen := false } : SSt).takeE ⟨1, 1, 1, [99]⟩, ?_, ?_, ?_, ?_, ?_, ?_, ?_⟩
  · rw [← r1]
    simp [SSt.put, isLogletN, isPlaceN, SSt.down, sst0, SSt.log, l0, newD]
  · simp [SSt.put, isLogletN, isPlaceN, SSt.down, SSt.log, f1.on]
  · rw [← r2']
    simp [SSt.seal, isLogletN, SSt.down, SSt.log, f1.on]
  · simp [SSt.put, isLogletN, isPlaceN, SSt.down, SSt.log, f2.on]
  · rw [← r3]
    simp [SSt.put, isLogletN, isPlaceN, SSt.down, SSt.log, f2.on]
  · rw [takeE_d]
    show (d3.bs.length : Int) - _ = 5
    rw [l3']
    rfl
  · simp [SSt.takeE, SSt.doE, SSt.fill, SSt.look, SSt.log, SSt.setLog, SSt.setSlot]
end Go.Proofs.Ytoopnafdpenofaa

/- knows of the statements of layer 4. -/
namespace Go.Proofs.Ytoopnafdpenofaa
open Go.RowKit Go.Shelf

set_option maxRecDepth 100000 in
theorem num4_any (n : Int) (w : World) : Calls Try.prog 6 #[.int .i64 n] w fun e w' => e = .returned (.int .i64 n) ∧ w' = w := by
  go_enter Try.func6, Try.ntmps6
  go_wp2
  go_ret
  exact ⟨rfl, rfl⟩
/-- The world behind '[]byte("x")': a new byte, whose row's end is marked. -/
def litW (W : World) (v : Value) : World := (W.alloc (.cells #[v] 5)).freeze ⟨W.heap.size, 1, none⟩ 1
theorem lit_conv (W : World) (v : Value) : (convert 34 34 (.slice (some ⟨W.heap.size, 0, none⟩) 1 1)).run Try.prog (W.alloc (.cells #[v] 5)) = .ok (.slice (some ⟨W.heap.size, 0, none⟩) 1 1) (litW W v) := by
  have h1 : (W.alloc (.cells #[v] 5)).shape? W.heap.size = some (5, 1) := by
    unfold World.shape?
    rw [heap_alloc_last]
    rfl
  simp [convert, markStringish, run_underlying Try.underlying34, run_underlying Try.underlying5, Result.andThen, h1, litW]
theorem litW_heap (W : World) (v : Value) : (litW W v).heap.size = W.heap.size + 1 ∧ (∃ fr, (litW W v).heap[W.heap.size]? = some (.cells #[v] 5 fr)) ∧ Below W.heap.size W (litW W v) := by
  have hs : (litW W v).heap = (W.alloc (.cells #[v] 5)).heap.modify W.heap.size (fun
      | .cells c elem (lo, hi) => .cells c elem (if lo == hi then (1, 1 + 1) else (min lo 1, max hi (1 + 1)))
      | o => o) := rfl
  have h1 : (litW W v).heap.size = W.heap.size + 1 := by rw [hs, Array.size_modify]; simp
  refine ⟨h1, ⟨(1, 2), ?_⟩, rfl, rfl, rfl, by omega, fun k hk => ?_⟩
  · rw [hs, Array.getElem?_modify, if_pos rfl, heap_alloc_last]
    rfl
  · rw [hs, Array.getElem?_modify, if_neg (by omega)]
    exact Below.heap_alloc W _ k hk
theorem lit_ok (W : World) (x : Nat) (z : Int) (hz : z = x) (hx : x < 256) : Part.ok (litW W (.int .u8 z)) ⟨some ⟨W.heap.size, 0, none⟩, 1, 1, [x]⟩ := by
  subst hz
  obtain ⟨h1, ⟨fr, h2⟩, -⟩ := litW_heap W (.int .u8 (x : Int))
  refine ⟨rfl, fun e => (by cases e), fun y hy => by simp at hy; omega, Or.inr ⟨W.heap.size, 0, rfl, by omega, fun i hi => ?_⟩⟩
  have hi0 : i = 0 := by simpa using hi
  subst hi0
  exact cell_of_row _ _ _ _ _ _ h2
set_option maxRecDepth 100000 in
set_option maxHeartbeats 1000000 in
theorem knows4 (w : World) : Calls Try.prog 7 #[] w fun e w' => e = .returned (.bool true) ∧ Below w.heap.size w w' := by
  obtain ⟨s1, s2, s3, p1, p2, p3, p4, p5, p6, p7⟩ := knowsM
  have hnew := new_ok 8 w (by omega) (by omega)
  have HOp : Hid (∀ (w1 : World) (F : List Nat) (D : Nat), Dk w1 F D (newD (8 : Int).toNat) → (∀ g ∈ F, w.heap.size ≤ g) → Below w.heap.size w w1 → Calls Try.prog 5 #[.pointer (some ⟨D, 0, none⟩)] w1 fun x w2 => ∃ S, x = .returned (.tuple #[.pointer (some ⟨S, 0, none⟩), .int .i64 0]) ∧ Hid (SA w.heap.size w2 S (sst0 (newD 8)) ∧ Below w.heap.size w w2)) := fun w1 F D hd hF hb => by
    refine (SA.open hd hF hb.size).mono ?_
    rintro x w2 ⟨S, rfl, h1, h2⟩
    exact ⟨S, rfl, h1, hb.trans h2⟩
  have HPut : Hid (∀ (S : Nat) (s t : SSt) (z p : Int) (x : Nat) (q : Int) (r : Bool), q = x → x < 256 → s.put 1 p [x] r = (z, t) → ∀ W, (SA w.heap.size W S s ∧ Below w.heap.size w W) → Calls Try.prog 9 #[.pointer (some ⟨S, 0, none⟩), .int .i64 1, .int .i64 p, .slice (some ⟨W.heap.size, 0, none⟩) 1 1, .bool r] (litW W (.int .u8 q)) fun e W' => e = .returned (.int .i64 z) ∧ Hid (SA w.heap.size W' S t ∧ Below w.heap.size w W')) := fun S s t z p x q r hq hx hpt W ⟨h1, h2⟩ => by
    have hb : Below W.heap.size W (litW W (.int .u8 q)) := (litW_heap W _).2.2
    have hb2 := h2.trans (hb.mono h2.size)
    refine ((h1.later hb).put hb2.size 1 p (by omega) (by omega) _ 1 1 [x] (lit_ok W x q hq hx) (by omega) r).mono ?_
    rintro e W' ⟨rfl, h3, h4⟩
    rw [hpt] at h3 ⊢
    exact ⟨rfl, h3, hb2.trans h4⟩
  have HP1 := hide (fun S => HPut.out S _ s1 0 0 97 97 false rfl (by omega) p1)
  have HP2 := hide (fun S => HPut.out S _ s1 31 0 98 98 false rfl (by omega) p2)
  have HP4 := hide (fun S => HPut.out S _ s2 30 1 99 99 false rfl (by omega) p4)
  have HP5 := hide (fun S => HPut.out S _ s3 0 1 99 99 true rfl (by omega) p5)
  have HSe : Hid (∀ (S : Nat) W, (SA w.heap.size W S s1 ∧ Below w.heap.size w W) → Calls Try.prog 15 #[.pointer (some ⟨S, 0, none⟩), .int .i64 1] W fun e W' => e = .returned (.int .i64 0) ∧ Hid (SA w.heap.size W' S s2 ∧ Below w.heap.size w W')) := fun S W ⟨h1, h2⟩ => by
    refine (h1.seal h2.size 1 (by omega) (by omega)).mono ?_
    rintro e W' ⟨rfl, h3, h4⟩
    rw [p3] at h3 ⊢
    exact ⟨rfl, h3, h2.trans h4⟩
  have HFr : Hid (∀ (S : Nat) W, (SA w.heap.size W S s3 ∧ Below w.heap.size w W) → Calls Try.prog 8 #[.pointer (some ⟨S, 0, none⟩)] W fun e W' => e = .returned (.int .i64 5) ∧ Hid (SA w.heap.size W' S s3 ∧ Below w.heap.size w W')) := fun S W ⟨h1, h2⟩ => by
    refine h1.freeC.mono ?_
    rintro e W' ⟨rfl, h4⟩
    rw [p6]
    exact ⟨rfl, h1.later h4, h2.trans (h4.mono h2.size)⟩
  have HTa : Hid (∀ (S : Nat) W, (SA w.heap.size W S s3 ∧ Below w.heap.size w W) → Calls Try.prog 16 #[.pointer (some ⟨S, 0, none⟩), .int .i64 1] W fun e W' => e = .returned (.int .i64 2) ∧ Hid (Below w.heap.size w W')) := fun S W ⟨h1, h2⟩ => by
    refine (h1.tailC 1 (by omega) (by omega)).mono ?_
    rintro e W' ⟨rfl, h4⟩
    rw [p7]
    exact ⟨rfl, h2.trans (h4.mono h2.size)⟩
  clear p1 p2 p3 p4 p5 p6 p7 HPut
  have hcv := lit_conv
  go_enter Try.func7, Try.ntmps7
  go_wp2_with (first
    | (go_at_call 4; refine hnew.mono ?_; rintro e w1 ⟨F, D, rfl, hd, hF, hb⟩; have HO := hide (HOp.out w1 F D hd hF hb); clear hd hF hb hnew)
    | (go_at_call 5; (with_reducible_and_instances (refine HO.out.mono ?_)); rintro e w2 ⟨S, rfl, H0⟩; clear HO HOp)
    | (go_at_call 6; refine (num4_any _ _).mono ?_; rintro e w' ⟨rfl, hw'⟩; obtain rfl := hw'.symm)
    | (go_at_call 9; (with_reducible_and_instances (refine (HP1.out S w2 H0.out).mono ?_)); rintro e w3 ⟨rfl, H1⟩; clear HP1 H0)
    | (go_at_call 9; (with_reducible_and_instances (refine (HP2.out S w3 H1.out).mono ?_)); rintro e w4 ⟨rfl, H2⟩; clear HP2 H1)
    | (go_at_call 15; (with_reducible_and_instances (refine (HSe.out S w4 H2.out).mono ?_)); rintro e w5 ⟨rfl, H3⟩; clear HSe H2)
    | (go_at_call 9; (with_reducible_and_instances (refine (HP4.out S w5 H3.out).mono ?_)); rintro e w6 ⟨rfl, H4⟩; clear HP4 H3)
    | (go_at_call 9; (with_reducible_and_instances (refine (HP5.out S w6 H4.out).mono ?_)); rintro e w7 ⟨rfl, H5⟩; clear HP5 H4)
    | (go_at_call 8; (with_reducible_and_instances (refine (HFr.out S w7 H5.out).mono ?_)); rintro e w8 ⟨rfl, H6⟩; clear HFr H5)
    | (go_at_call 16; (with_reducible_and_instances (refine (HTa.out S w8 H6.out).mono ?_)); rintro e w9 ⟨rfl, H7⟩; clear HTa H6))
  go_ret
  exact ⟨rfl, H7.out⟩
end Go.Proofs.Ytoopnafdpenofaa

/- What a store has between two Puts of StoreRoom. -/
namespace Go.Proofs.Ytoopnafdpenofaa
open Go.RowKit Go.Shelf

/-- A store of nb blocks, whose loglet 1 has room from place k on. -/
structure RoomI (nb : Nat) (s : SSt) (k : Nat) : Prop where
  len : s.d.bs.length = nb
  fin : s.fin ≤ nb
  slots : ∀ j, k ≤ j → s.slots 1 j = none
  trim : (s.log 1).trim = 0
  open_ : (s.log 1).sealed = false
  up : s.fallen = false
theorem room_start (nb : Nat) : RoomI nb (sst0 (newD nb)) 0 := ⟨List.length_replicate, Nat.zero_le _, fun _ _ => rfl, rfl, rfl, rfl⟩
theorem room_put {nb : Nat} {s : SSt} {k : Nat} (h : RoomI nb s k) (hf : s.d.free) (hc : s.d.clean) (hk : k < 4096) (data : List Nat) (hd : data.length ≤ 65536) :
    (nb < s.fin + partsN (13 + data.length) → s.put 1 (k : Int) data false = (7, s)) ∧ (s.fin + partsN (13 + data.length) ≤ nb → ∃ t, s.put 1 (k : Int) data false = (0, t) ∧ RoomI nb t (k + 1) ∧ t.fin = s.fin + partsN (13 + data.length)) := by
  have hp : s.put 1 (k : Int) data false = s.record ⟨1, 1, k, data⟩ := by
    have h1 : (isLogletN 1 && isPlaceN (k : Int)) = true := by simp [isLogletN, isPlaceN]; omega
    have h2 : s.down = false := by unfold SSt.down; rw [h.up, hf.on]; rfl
    unfold SSt.put
    rw [if_pos h1, if_neg (by omega), if_neg (by rw [h2]; simp)]
    have e1 : (1 : Int).toNat = 1 := rfl
    rw [e1, Int.toNat_natCast, h.trim, if_neg (by omega), h.slots k (Nat.le_refl _), h.open_]
    rfl
  have hpa : (⟨1, 1, k, data⟩ : Ent).parts = partsN (13 + data.length) := rfl
  rw [hp]
  refine ⟨fun hfull => record_full _ (by rw [hpa, h.len]; exact hfull), fun hfit => ?_⟩
  obtain ⟨d, r1, f1, c1, l1⟩ := record_free hf hc ⟨1, 1, k, data⟩ (by rw [hpa, h.len]; exact hfit)
  refine ⟨_, r1, ?_, rfl⟩
  have hcond : ({ s with d := d } : SSt).slots 1 k = none ∧ (({ s with d := d } : SSt).log 1).trim ≤ k := ⟨h.slots k (Nat.le_refl _), by show (s.log 1).trim ≤ k; rw [h.trim]; omega⟩
  have e : ({ s with d := d } : SSt).takeE ⟨1, 1, k, data⟩ = { d := d, slots := fun i q => if i = 1 ∧ q = k then some data else s.slots i q, logs := fun j => if j = 1 then some ⟨max (s.log 1).tail (k + 1), (s.log 1).trim, (s.log 1).sealed⟩ else s.logs j, num := s.num + 1, fin := s.fin + partsN (13 + data.length), fallen := s.fallen } := by
    unfold SSt.takeE SSt.doE SSt.fill
    rw [if_pos rfl, if_pos hcond]
    rfl
  rw [e]
  refine ⟨by show d.bs.length = nb; rw [l1]; exact h.len, hfit, fun j hj => ?_, ?_, ?_, h.up⟩
  · show (if (1 : Nat) = 1 ∧ j = k then some data else s.slots 1 j) = none
    rw [if_neg (by omega)]
    exact h.slots j (by omega)
  · show (Option.getD (if (1 : Nat) = 1 then some _ else s.logs 1) l0).trim = 0
    rw [if_pos rfl]
    exact h.trim
  · show (Option.getD (if (1 : Nat) = 1 then some _ else s.logs 1) l0).sealed = false
    rw [if_pos rfl]
    exact h.open_
end Go.Proofs.Ytoopnafdpenofaa

/- StoreRoom: its walk. -/
namespace Go.Proofs.Ytoopnafdpenofaa
open Go.RowKit Go.Shelf

set_option maxRecDepth 100000 in
set_option maxHeartbeats 2000000 in
theorem storeRoom_any (w : World) (a : Int) (ad : Option Addr) (len cap : Nat) (cs : List Int) (hc : IArg w cs ad len) : Calls Try.prog 3 #[.int .i64 a, .slice ad len cap] w fun e w' => e = .returned (.bool true) ∧ Below w.heap.size w w' := by
  have r1 : -40 < a.tmod 40 ∧ a.tmod 40 < 40 := ⟨Int.lt_tmod_of_pos a (by omega), Int.tmod_lt_of_pos a (by omega)⟩
  obtain ⟨N, hN, hN2⟩ : ∃ N : Nat, a.tmod 40 % 40 = (N : Int) ∧ N < 40 := ⟨(a.tmod 40 % 40).toNat, by omega, by omega⟩
  have hN' : (a.tmod 40 + 40) % 40 = (N : Int) := by omega
  have HC := hide hc
  have hnew := new_ok (1 + (N : Int)) w (by omega) (by omega)
  have hnt : (1 + (N : Int)).toNat = N + 1 := by omega
  rw [hnt] at hnew
  have HOp : Hid (∀ (w1 : World) (F : List Nat) (D : Nat), Dk w1 F D (newD (N + 1)) → (∀ g ∈ F, w.heap.size ≤ g) → Below w.heap.size w w1 → Calls Try.prog 5 #[.pointer (some ⟨D, 0, none⟩)] w1 fun x w2 => ∃ S, x = .returned (.tuple #[.pointer (some ⟨S, 0, none⟩), .int .i64 0]) ∧ Hid (SA w.heap.size w2 S (sst0 (newD (N + 1))) ∧ Below w.heap.size w w2)) := fun w1 F D hd hF hb => by
    refine (SA.open hd hF hb.size).mono ?_
    rintro x w2 ⟨S, rfl, h1, h2⟩
    exact ⟨S, rfl, h1, hb.trans h2⟩
  clear hc hnt
  go_enter Try.func3, Try.ntmps3
  go_wp2_with (first
    | (go_at_call 4; (with_reducible_and_instances (refine hnew.mono ?_)); rintro e w1 ⟨F, D, rfl, hd, hF, hb⟩; have HO := hide (HOp.out w1 F D hd hF hb); clear hd hF hb hnew)
    | (go_at_call 5; (with_reducible_and_instances (refine HO.out.mono ?_)); rintro e w2 ⟨S, rfl, H0⟩; clear HO HOp)
    | (go_at_call 6; refine (num4_any _ _).mono ?_; rintro e w' ⟨rfl, hw'⟩; obtain rfl := hw'.symm)
    | (go_at_call 7; refine (knows4 _).mono ?_; rintro e w3 ⟨rfl, b3⟩; have H1 := hide (And.intro (H0.out.1.later b3) (H0.out.2.trans (b3.mono H0.out.2.size))); clear b3 H0))
  clear hN hN' r1
  go_loopw [9] (fun i wr => ∃ k : Nat, k ≤ len ∧ k ≤ 40 ∧ i = .int .i64 k ∧ Hid (∃ s, SA w.heap.size wr S s ∧ RoomI (N + 1) s k) ∧ Hid (Below w.heap.size w wr)) (fun i _ => len - (intOf i).toNat)
  case atStart => exact ⟨0, Nat.zero_le _, Nat.zero_le _, rfl, hide ⟨_, H1.out.1, room_start _⟩, hide H1.out.2⟩
  case round =>
    obtain ⟨k, hk, hk40, rfl, HRk, HBk⟩ := hrel
    clear H1
    by_cases hlt : k < len
    · by_cases hl40 : k < 40
      · obtain ⟨s, hsa, hro⟩ := HRk.out
        have HSk := hide (And.intro hsa hro)
        obtain ⟨c, hcc, hc1, hc2⟩ : ∃ c : Int, cs.getD k 0 = c ∧ -9223372036854775808 ≤ c ∧ c ≤ 9223372036854775807 := by
          refine ⟨_, rfl, ?_⟩
          have hkl : k < cs.length := by rw [HC.out.1]; exact hlt
          have hmem : cs.getD k 0 ∈ cs := by rw [List.getD_eq_getElem?_getD, List.getElem?_eq_getElem hkl]; exact List.getElem_mem hkl
          exact HC.out.3 _ hmem
        obtain ⟨b, off, rfl, hb, hcell⟩ := HC.out.2.resolve_left (by omega)
        have hck := ((HBk.out.cell (p := ⟨b, off + k, none⟩) hb).trans (hcell k hlt)).trans (by rw [hcc])
        have r1 : -2000 < c.tmod 2000 ∧ c.tmod 2000 < 2000 := ⟨Int.lt_tmod_of_pos c (by omega), Int.tmod_lt_of_pos c (by omega)⟩
        obtain ⟨m, hm, hm2⟩ : ∃ m : Nat, c.tmod 2000 % 2000 = (m : Int) ∧ m < 2000 := ⟨(c.tmod 2000 % 2000).toNat, by omega, by omega⟩
        have hm' : (c.tmod 2000 + 2000) % 2000 = (m : Int) := by omega
        obtain ⟨P, hP⟩ : ∃ P : Nat, partsN (13 + m) = P := ⟨_, rfl⟩
        have hP1 : ((m : Int) + 13 + 239) / 240 = (P : Int) := by unfold partsN at hP; omega
        have hfin := hro.fin
        obtain ⟨fr, hfr⟩ : ∃ fr : Nat, N + 1 - s.fin = fr := ⟨_, rfl⟩
        have hfr2 : (s.d.bs.length : Int) - (s.fin : Int) = (fr : Int) := by rw [hro.len]; omega
        have HFr := hide (hsa.freeC)
        rw [hfr2] at HFr
        obtain ⟨ZB, hZB⟩ : ∃ ZB : Obj, ZB = .cells (madeCells #[Value.int .u8 0] m) 5 := ⟨_, rfl⟩
        have hmk : ∀ W : World, (Instr.makeSlice 34 (.int .i64 (m : Int)) (.int .i64 (m : Int))).run Try.prog W = .ok (.slice (some ⟨W.heap.size, 0, none⟩) m m) (W.alloc ZB) := fun W => by
          rw [hZB]
          exact run_make_row' 34 5 (.int .u8 0) 1 Try.underlying34 Try.info5 rfl .i64 .i64 m (by omega) (by omega) W
        have hrp := room_put hro hsa.2.1 hsa.2.2 (by omega) (List.replicate m 0) (by simp; omega)
        simp only [List.length_replicate, hP] at hrp
        have HPt : Hid (∀ (z : Int) (t : SSt), s.put 1 (k : Int) (List.replicate m 0) false = (z, t) → ∀ W, (SA w.heap.size W S s ∧ Below w.heap.size w W) → Calls Try.prog 9 #[.pointer (some ⟨S, 0, none⟩), .int .i64 1, .int .i64 (k : Int), .slice (some ⟨W.heap.size, 0, none⟩) m m, .bool false] (W.alloc ZB) fun e W' => e = .returned (.int .i64 z) ∧ Hid (SA w.heap.size W' S t ∧ Below w.heap.size w W')) := fun z t hpt W ⟨h1, h2⟩ => by
          have hb : Below W.heap.size W (W.alloc ZB) := (Below.refl _ _).alloc (Nat.le_refl _) _
          have hb2 := h2.trans (hb.mono h2.size)
          refine ((h1.later hb).put hb2.size 1 (k : Int) (by omega) (by omega) _ m m (List.replicate m 0) (by rw [hZB]; exact made_ok W m (by omega)) (by omega) false).mono ?_
          rintro e W' ⟨rfl, h3, h4⟩
          rw [hpt] at h3 ⊢
          exact ⟨rfl, h3, hb2.trans h4⟩
        by_cases hfit : s.fin + P ≤ N + 1
        · obtain ⟨t, ht1, ht2, ht3⟩ := hrp.2 hfit
          clear hrp
          have HPut := hide (HPt.out 0 t ht1)
          have HRt := hide ht2
          have HFr2 : Hid (∀ W, (SA w.heap.size W S t ∧ Below w.heap.size w W) → Calls Try.prog 8 #[.pointer (some ⟨S, 0, none⟩)] W fun e W' => e = .returned (.int .i64 ((fr : Int) - (P : Int))) ∧ Hid (SA w.heap.size W' S t ∧ Below w.heap.size w W')) := fun W ⟨h1, h2⟩ => by
            refine h1.freeC.mono ?_
            rintro e W' ⟨rfl, h4⟩
            exact ⟨ret_int (by rw [ht2.len, ht3]; omega), h1.later h4, h2.trans (h4.mono h2.size)⟩
          have hq1 : decide (fr < P) = false := decide_eq_false (by omega)
          have hq2 : decide (P ≤ fr) = true := decide_eq_true (by omega)
          have hfrP : P ≤ fr := by omega
          have hfrl : fr ≤ 40 := by omega
          clear HPt ht1 ht2 ht3 hfit hsa hro hfr2 hfr hZB hcell hcc hP HRk HC hb hfin
          go_wp2_with (first
          | (go_at_call 8; (with_reducible_and_instances (refine HFr.out.mono ?_)); rintro e w4 ⟨rfl, b4⟩; have H4 := hide (And.intro (HSk.out.1.later b4) (HBk.out.trans (b4.mono HBk.out.size))); have HPu := hide (HPut.out w4 H4.out); clear b4 HFr)
          | (go_at_call 9; (with_reducible_and_instances (refine HPu.out.mono ?_)); rintro e w5 ⟨rfl, H5⟩; have HF2 := hide (HFr2.out w5 H5.out); clear HPu H4)
          | (go_at_call 6; refine (num4_any _ _).mono ?_; rintro e w' ⟨rfl, hw'⟩; obtain rfl := hw'.symm)
          | (go_at_call 8; (with_reducible_and_instances (refine HF2.out.mono ?_)); rintro e w6 ⟨rfl, H6⟩; clear HF2))
          all_goals go_roundw
          all_goals first
            | exact ⟨k + 1, by omega, by omega, by go_num, hide ⟨t, H6.out.1, HRt.out⟩, hide H6.out.2⟩
            | (simp [intOf]; omega)
        · have hpf := hrp.1 (by omega)
          clear hrp
          have HPut := hide (HPt.out 7 s hpf)
          have HRt : Hid (RoomI (N + 1) s (k + 1)) := ⟨hro.len, hro.fin, fun j hj => hro.slots j (by omega), hro.trim, hro.open_, hro.up⟩
          have HFr2 : Hid (∀ W, (SA w.heap.size W S s ∧ Below w.heap.size w W) → Calls Try.prog 8 #[.pointer (some ⟨S, 0, none⟩)] W fun e W' => e = .returned (.int .i64 (fr : Int)) ∧ Hid (SA w.heap.size W' S s ∧ Below w.heap.size w W')) := fun W ⟨h1, h2⟩ => by
            refine h1.freeC.mono ?_
            rintro e W' ⟨rfl, h4⟩
            exact ⟨ret_int hfr2, h1.later h4, h2.trans (h4.mono h2.size)⟩
          have hq1 : decide (fr < P) = true := decide_eq_true (by omega)
          have hq2 : decide (P ≤ fr) = false := decide_eq_false (by omega)
          have hfrP : fr < P := by omega
          have hfrl : fr ≤ 40 := by omega
          clear HPt hpf hfit hsa hro hfr2 hfr hZB hcell hcc hP HRk HC hb hfin
          go_wp2_with (first
          | (go_at_call 8; (with_reducible_and_instances (refine HFr.out.mono ?_)); rintro e w4 ⟨rfl, b4⟩; have H4 := hide (And.intro (HSk.out.1.later b4) (HBk.out.trans (b4.mono HBk.out.size))); have HPu := hide (HPut.out w4 H4.out); clear b4 HFr)
          | (go_at_call 9; (with_reducible_and_instances (refine HPu.out.mono ?_)); rintro e w5 ⟨rfl, H5⟩; have HF2 := hide (HFr2.out w5 H5.out); clear HPu H4)
          | (go_at_call 6; refine (num4_any _ _).mono ?_; rintro e w' ⟨rfl, hw'⟩; obtain rfl := hw'.symm)
          | (go_at_call 8; (with_reducible_and_instances (refine HF2.out.mono ?_)); rintro e w6 ⟨rfl, H6⟩; clear HF2))
          all_goals go_roundw
          all_goals first
            | exact ⟨k + 1, by omega, by omega, by go_num, hide ⟨s, H6.out.1, HRt.out⟩, hide H6.out.2⟩
            | (simp [intOf]; omega)
      · obtain rfl : k = 40 := by omega
        go_wp2
        go_ret
        exact ⟨rfl, HBk.out⟩
    · obtain rfl : k = len := by omega
      go_wp2
      go_ret
      exact ⟨rfl, HBk.out⟩
end Go.Proofs.Ytoopnafdpenofaa
