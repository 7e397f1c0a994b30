/- window of package producer, as it lies in a state's box: place, all. find of package producer: one of the last batches. decide of package producer: what becomes of a batch of the producer's own epoch; made, isMarker, isOffset. -/
import Derived.Test.YtfgamkcnnijloaaGreatPZN
import Derived.Test.YtfgamkcnnijloaaGreatPZRange
import Derived.Shelf.Abstract
import Derived.Shelf.RegionOpen
import Derived.Stop.RegionWithIn
import Derived.OwnWalkIn
import Derived.TacticsInMore
import Derived.LoopNIn
import Derived.LoopIn
import Derived.Laws.Cover3
namespace Go.Proofs.YtfgamkcnnijloaaGreat
open Go.RowKit Go.Shelf
variable {w w' : World} {B : Nat} {s : PSt}

abbrev TSt : TypeId := 135
abbrev TDn : TypeId := 130
/-- A batch's cells. -/
def dnL (d : Dn) : List Value := [.int .i64 d.seq, .int .i64 d.len, .int .i64 d.off]
/-- In w the block B is a state in its box. -/
def SBox (w : World) (B : Nat) (s : PSt) : Prop := Blk w B (psL s).toArray TSt
theorem SBox.later (h : SBox w B s) (hb : Below w.heap.size w w') : SBox w' B s := Blk.later h hb
theorem SBox.chg {F : List Nat} (h : SBox w B s) (hb : Chg F w w') (hn : B ∉ F) : SBox w' B s := Blk.chg h hb hn
theorem SBox.old (h : SBox w B s) : w.cell? ⟨B, 17, none⟩ = some (.int .i64 (s.old : Int)) := Blk.cell h 17
theorem SBox.cnt (h : SBox w B s) : w.cell? ⟨B, 18, none⟩ = some (.int .i64 (s.cnt : Int)) := Blk.cell h 18
theorem SBox.slot (h : SBox w B s) (p : Nat) (hp : p < 5) : w.cell? ⟨B, 2 + p * 3, none⟩ = some (.int .i64 (s.slot p).seq) ∧ w.cell? ⟨B, 2 + p * 3 + 1, none⟩ = some (.int .i64 (s.slot p).len) ∧ w.cell? ⟨B, 2 + p * 3 + 2, none⟩ = some (.int .i64 (s.slot p).off) := by
  rcases (show p = 0 ∨ p = 1 ∨ p = 2 ∨ p = 3 ∨ p = 4 by omega) with rfl | rfl | rfl | rfl | rfl
  all_goals exact ⟨Blk.cell h _, Blk.cell h _, Blk.cell h _⟩
theorem place_any (h : SBox w B s) (ho : s.old < 5) (i : Nat) (hi : i ≤ 5) : Calls Tryz.prog 115 #[.pointer (some ⟨B, 2, none⟩), .int .i64 (i : Int)] w fun e w' => e = .returned (.int .i64 ((s.place i : Nat) : Int)) ∧ w' = w := by
  have c := h.old
  have hm : ((s.old : Int) + (i : Int)).tmod 5 = ((s.place i : Nat) : Int) := by
    rw [Int.tmod_eq_emod_of_nonneg (by omega)]; unfold PSt.place; omega
  clear h
  go_enter Tryz.func115, Tryz.ntmps115
  go_wp2
  go_ret
  exact ⟨rfl, rfl⟩
/-- Round k is handed batch k. -/
def WinR (s : PSt) (k : Nat) (args : Array Value) (_ : World) : Prop := k < s.cnt ∧ args = #[.agg #[.int .i64 (s.at k).seq, .int .i64 (s.at k).len, .int .i64 (s.at k).off]]
set_option maxRecDepth 100000 in
set_option maxHeartbeats 400000 in
theorem all_seq (h : SBox w B s) (hok : s.ok) (gb : Nat) (Gs : List Nat) (K : Nat → World → Prop) (hgb : w.cell? ⟨gb, 0, none⟩ = some (.pointer (some ⟨B, 2, none⟩))) (hg : gb ∈ Gs) (hB : B ∈ Gs) (hlt : ∀ g ∈ Gs, g < w.heap.size) :
    SeqR Tryz.prog 127 #[.pointer (some ⟨gb, 0, none⟩)] (Kg Gs) K (WinR s) s.cnt w := by
  intro q J Jx W hW hJ _ _ hY h0
  have hk0 : Kg Gs w W := Kg.below hW hlt
  have HK0 : Hid (Kg Gs w W) := hk0
  have H : Hid (SBox w B s) := h
  have HJ : Hid (∀ k X Y, J k X → Below X.heap.size X Y → J k Y) := hJ
  have HL : Hid (∀ g ∈ Gs, g < w.heap.size) := hlt
  have HY : Hid (∀ k args X, k < s.cnt → J k X → WinR s k args X → YieldAt Fence.wide 1 Tryz.prog q args X fun e Y => (e = .returned (.bool true) ∧ J (k + 1) Y ∧ Kg Gs X Y) ∨ (e = .returned (.bool false) ∧ Jx (k + 1) Y)) := hY
  have HC : Hid (w.cell? ⟨gb, 0, none⟩ = some (.pointer (some ⟨B, 2, none⟩))) := hgb
  have HS : Hid (∀ X, Kg Gs w X → SBox X B s) := fun X hX => (hX.2 B hB).trans h
  have ct0 : W.cell? ⟨gb, 0, none⟩ = some (.pointer (some ⟨B, 2, none⟩)) := (hk0.cell hg (i := 0)).trans hgb
  have cc0 := (HS.out W hk0).cnt
  have h5 := hok.cnt
  have HO := hid hok.old
  clear hW hJ hY h hlt hk0 hgb hok
  obtain ⟨n, hn⟩ : ∃ n, s.cnt = n := ⟨_, rfl⟩
  rw [hn] at cc0 h5 HY ⊢
  have HN := hid hn
  clear hn
  refine callsIn_of_wp Tryz.func127 rfl trivial ?_ rfl
  simp only [Tryz.ntmps127, List.size_toArray, List.length_cons, List.length_nil, Nat.reduceAdd, Nat.reduceSub, Array.replicate_succ, Array.replicate_zero, List.push_toArray, List.append_toArray, List.nil_append, List.cons_append]
  gi_wp2
  gi_loopw [8] (fun i wr => ∃ k : Nat, k ≤ n ∧ i = .int .i64 (k : Int) ∧ Hid (J k wr) ∧ Hid (Kg Gs w wr)) (fun i _ => n - (intOf i).toNat)
  case atStart => exact ⟨0, Nat.zero_le _, rfl, h0, HK0⟩
  case round =>
    obtain ⟨k, hk, rfl, HJk, HKk⟩ := hrel
    by_cases hkl : k < n
    · have c1 : wr.cell? ⟨gb, 0, none⟩ = some (.pointer (some ⟨B, 2, none⟩)) := (HKk.out.cell hg (i := 0)).trans HC.out
      have hS := HS.out wr HKk.out
      have hp := s.place_lt k
      have hpl := fun X (hX : SBox X B s) => place_any hX HO.out k (by omega)
      obtain ⟨fn, tmps, assign, body, hy, hR⟩ := YieldAt.mono (R' := fun e Y => ∃ b : Bool, e = .returned (.bool b) ∧ Hid ((b = true → J (k + 1) Y ∧ Kg Gs wr Y) ∧ (b = false → Jx (k + 1) Y))) (HY.out k _ wr.drew hkl (HJ.out k wr _ HJk.out (Below.refl _ _).drew) ⟨by rw [HN.out]; exact hkl, rfl⟩) (by
        rintro e Y (⟨rfl, h1⟩ | ⟨rfl, h1⟩)
        · exact ⟨true, rfl, fun _ => ⟨h1.1, (Kg.below (Below.refl _ wr).drew (fun g hg => Nat.lt_of_lt_of_le (HL.out g hg) HKk.out.1)).trans h1.2⟩, fun h => (by cases h)⟩
        · exact ⟨false, rfl, fun h => (by cases h), fun _ => h1⟩)
      have HRd := hid hR
      obtain ⟨d0, d1, d2⟩ := hS.slot (s.place k) hp
      unfold PSt.at at HRd hy
      generalize s.place k = p at *
      have hpw := hpl wr.drew (hS.later (Below.refl _ _).drew)
      have HPl := hid hpw
      clear hR ct0 cc0 HY hS hpl hpw
      generalize (s.slot p).seq = e0 at *
      generalize (s.slot p).len = e1 at *
      generalize (s.slot p).off = e2 at *
      gi_wp2
      gi_region_with (first
        | (refine ⟨trivial, ?_⟩; gi_at_call 115; (with_reducible_and_instances (refine (callsIn_wide.2 HPl.out).mono ?_)); rintro e w2 ⟨rfl, hw2⟩; obtain rfl := hw2.symm)
        | (refine HRd.out.mono ?_; rintro e W3 ⟨b, rfl, hb⟩))
      all_goals
        cases b
        · have HX := hid (hb.out.2 rfl)
          clear hb
          gi_wp2
          refine bodyPost_ret (results_none rfl _ _ _) rfl ?_
          exact ⟨⟨_, rfl⟩, .inr ⟨k + 1, by omega, HX.out⟩⟩
        · have HJn := hid (hb.out.1 rfl).1
          have HKn := hid (HKk.out.trans (hb.out.1 rfl).2)
          clear hb
          gi_wp2
          go_roundw
          case rel => exact ⟨k + 1, by omega, by go_num, HJn, HKn⟩
          case measure => simp [intOf]; omega
    · obtain rfl : k = n := by omega
      gi_wp2
      go_end0
      exact ⟨⟨_, rfl⟩, .inl HJk.out⟩
theorem enters_all : ∀ args w, (callFunc 127 args).run Tryz.prog w = .ok (.enter 127 args) w := fun _ _ => by kernel_rfl
theorem all_any (ad : Addr) (w : World) : Calls Tryz.prog 114 #[.pointer (some ad)] w fun e w' => e = .returned (.func (.func 127) #[] #[.pointer (some ⟨w.heap.size, 0, none⟩)]) ∧ w' = w.alloc (.cells #[.pointer (some ad)] 176) := by
  have hmf : ∀ (fn : Fn) (first cap : Array Value) (w : World), (Instr.makeFunc fn first cap).run Tryz.prog w = .ok (.func fn first cap) w := fun _ _ _ _ => rfl
  go_enter Tryz.func114, Tryz.ntmps114
  go_wp2_with fail
  go_ret
  exact ⟨rfl, rfl⟩
end Go.Proofs.YtfgamkcnnijloaaGreat
namespace Go.Proofs.YtfgamkcnnijloaaGreat
open Go.RowKit Go.Shelf
attribute [local go_sem] Oper.semAt_some
variable {w w' : World} {B : Nat} {s : PSt}

/-- What find keeps while its loop runs. -/
structure FdI (w : World) (q n : Int) (d : Dn) (k : Bool) (Z : World) : Prop where
  below : Below w.heap.size w Z
  b0 : Blk Z w.heap.size #[.int .i64 q] 3
  b1 : Blk Z (w.heap.size + 1) #[.int .i64 n] 3
  b2 : Blk Z (w.heap.size + 2) (dnL d).toArray TDn
  b3 : Blk Z (w.heap.size + 3) #[.bool k] 4
theorem FdI.chg {q n : Int} {d : Dn} {k : Bool} {Z Z' : World} {F : List Nat} (h : FdI w q n d k Z) (hc : Chg F Z Z') (hF : ∀ g ∈ F, w.heap.size + 4 ≤ g) : FdI w q n d k Z' := by
  refine ⟨?_, h.b0.chg hc (fun hm => absurd (hF _ hm) (by omega)), h.b1.chg hc (fun hm => absurd (hF _ hm) (by omega)), h.b2.chg hc (fun hm => absurd (hF _ hm) (by omega)), h.b3.chg hc (fun hm => absurd (hF _ hm) (by omega))⟩
  exact ⟨hc.os.trans h.below.os, hc.tape.trans h.below.tape, hc.output.trans h.below.output, Nat.le_trans h.below.size hc.size, fun k hk => (hc.block k (Nat.lt_of_lt_of_le hk h.below.size) (fun hm => absurd (hF _ hm) (by omega))).trans (h.below.block k hk)⟩
/-- Its two answers are stored. -/
theorem FdI.set {q n : Int} {d d' : Dn} {k k' : Bool} {Z Z' : World} (h : FdI w q n d k Z)
    (hZ : Z' = (((Z.setCell ⟨w.heap.size + 1 + 1, 0, none⟩ (.int .i64 d'.seq)).setCell ⟨w.heap.size + 1 + 1, 1, none⟩ (.int .i64 d'.len)).setCell ⟨w.heap.size + 1 + 1, 2, none⟩ (.int .i64 d'.off)).setCell ⟨w.heap.size + 1 + 1 + 1, 0, none⟩ (.bool k')) :
    FdI w q n d' k' Z' ∧ Chg [w.heap.size + 2, w.heap.size + 3] Z Z' := by
  have hc : Chg [w.heap.size + 2, w.heap.size + 3] Z Z' := by rw [hZ]; exact ((((Chg.refl _ Z).set (Or.inl (by simp)) _ _).set (Or.inl (by simp)) _ _).set (Or.inl (by simp)) _ _).set (Or.inl (by simp)) _ _
  refine ⟨⟨?_, h.b0.chg hc (by simp), h.b1.chg hc (by simp), ?_, ?_⟩, hc⟩
  · exact ⟨hc.os.trans h.below.os, hc.tape.trans h.below.tape, hc.output.trans h.below.output, Nat.le_trans h.below.size hc.size, fun k hk => (hc.block k (Nat.lt_of_lt_of_le hk h.below.size) (by simp; omega)).trans (h.below.block k hk)⟩
  · rw [hZ]
    exact (((h.b2.set 0 (.int .i64 d'.seq)).set 1 (.int .i64 d'.len)).set 2 (.int .i64 d'.off)).other (C := w.heap.size + 1 + 1 + 1) (by omega) 0 _
  · rw [hZ]
    exact (((h.b3.other (C := w.heap.size + 1 + 1) (by omega) 0 (.int .i64 d'.seq)).other (C := w.heap.size + 1 + 1) (by omega) 1 (.int .i64 d'.len)).other (C := w.heap.size + 1 + 1) (by omega) 2 (.int .i64 d'.off)).set 0 _
theorem FdI.ret {q n : Int} {d : Dn} {k : Bool} {Z : World} (h : FdI w q n d k Z) (tmps : Array Value) (h6 : tmps[6]? = some (.pointer (some ⟨w.heap.size + 1 + 1, 0, none⟩))) (h7 : tmps[7]? = some (.pointer (some ⟨w.heap.size + 1 + 1 + 1, 0, none⟩))) :
    (results (Tryz.f110) tmps).run Tryz.prog Z = .ok (.tuple #[.agg #[.int .i64 d.seq, .int .i64 d.len, .int .i64 d.off], .bool k]) Z := by
  have c0 : Z.cell? ⟨w.heap.size + 1 + 1, 0, none⟩ = some (.int .i64 d.seq) := h.b2.cell 0
  have c1 : Z.cell? ⟨w.heap.size + 1 + 1, 1, none⟩ = some (.int .i64 d.len) := h.b2.cell 1
  have c2 : Z.cell? ⟨w.heap.size + 1 + 1, 2, none⟩ = some (.int .i64 d.off) := h.b2.cell 2
  have c3 : Z.cell? ⟨w.heap.size + 1 + 1 + 1, 0, none⟩ = some (.bool k) := h.b3.cell 0
  simp only [results, Tryz.results110]
  simp [go_sem, h6, h7, c0, c1, c2, c3]
theorem findD_step {q n : Int} {k : Nat} (hk : k < s.cnt) : findD q n (s.last.drop k) = if (s.at k).seq = q ∧ (s.at k).len = n then some (s.at k) else findD q n (s.last.drop (k + 1)) := by
  have h := s.last_at k hk
  have hl : k < s.last.length := by rw [s.last_len]; exact hk
  rw [List.getElem?_eq_getElem hl] at h
  rw [List.drop_eq_getElem_cons hl, Option.some.inj h]
  rfl
set_option maxRecDepth 100000 in
set_option maxHeartbeats 400000 in
theorem find_any (h : SBox w B s) (hok : s.ok) (q n : Int) : Calls Tryz.prog 110 #[.pointer (some ⟨B, 2, none⟩), .int .i64 q, .int .i64 n] w fun e w' => e = .returned (.tuple #[.agg #[.int .i64 ((findD q n s.last).getD dn0).seq, .int .i64 ((findD q n s.last).getD dn0).len, .int .i64 ((findD q n s.last).getD dn0).off], .bool (findD q n s.last).isSome]) ∧ Below w.heap.size w w' := by
  obtain ⟨W5, hW5⟩ : ∃ W5, ((((w.alloc (.cells #[.int .i64 q] 3)).alloc (.cells #[.int .i64 n] 3)).alloc (.cells #[.int .i64 0, .int .i64 0, .int .i64 0] TDn)).alloc (.cells #[.bool false] 4)).alloc (.cells #[.pointer (some ⟨B, 2, none⟩)] 176) = W5 := ⟨_, rfl⟩
  have hb5 : Below w.heap.size w W5 := by rw [← hW5]; exact (((((Below.refl _ w).alloc (Nat.le_refl _) _).alloc (by simp) _).alloc (by simp; omega) _).alloc (by simp; omega) _).alloc (by simp; omega) _
  have hs5 : W5.heap.size = w.heap.size + 5 := by rw [← hW5]; simp
  have hB : FdI w q n dn0 false W5 ∧ Blk W5 (w.heap.size + 4) #[.pointer (some ⟨B, 2, none⟩)] 176 := by
    have q0 : Blk (w.alloc (.cells #[.int .i64 q] 3)) w.heap.size _ _ := heap_alloc_new w _
    have n1 := (Below.refl _ (w.alloc (.cells #[.int .i64 q] 3))).alloc (Nat.le_refl _) (.cells #[.int .i64 n] 3)
    have q1 : Blk _ _ _ _ := heap_alloc_new (w.alloc (.cells #[.int .i64 q] 3)) (.cells #[.int .i64 n] 3)
    rw [show (w.alloc (.cells #[.int .i64 q] 3)).heap.size = w.heap.size + 1 by simp] at q1
    have p0 := q0.later n1
    have e2 : ((w.alloc (.cells #[.int .i64 q] 3)).alloc (.cells #[.int .i64 n] 3)).heap.size = w.heap.size + 2 := by simp
    generalize (w.alloc (.cells #[.int .i64 q] 3)).alloc (.cells #[.int .i64 n] 3) = V at *
    have n2 := (Below.refl _ V).alloc (Nat.le_refl _) (.cells #[.int .i64 0, .int .i64 0, .int .i64 0] TDn)
    have q2 : Blk _ _ _ _ := heap_alloc_new V (.cells #[.int .i64 0, .int .i64 0, .int .i64 0] TDn)
    rw [e2] at q2
    have p02 := p0.later n2
    have p12 := q1.later n2
    have e3 : (V.alloc (.cells #[.int .i64 0, .int .i64 0, .int .i64 0] TDn)).heap.size = w.heap.size + 3 := by simp [e2]
    generalize V.alloc (.cells #[.int .i64 0, .int .i64 0, .int .i64 0] TDn) = U at *
    have n3 := (Below.refl _ U).alloc (Nat.le_refl _) (.cells #[.bool false] 4)
    have q3 : Blk _ _ _ _ := heap_alloc_new U (.cells #[.bool false] 4)
    rw [e3] at q3
    have p03 := p02.later n3
    have p13 := p12.later n3
    have p23 := q2.later n3
    have e4 : (U.alloc (.cells #[.bool false] 4)).heap.size = w.heap.size + 4 := by simp [e3]
    generalize U.alloc (.cells #[.bool false] 4) = T at *
    have n4 := (Below.refl _ T).alloc (Nat.le_refl _) (.cells #[.pointer (some ⟨B, 2, none⟩)] 176)
    have q4 : Blk _ _ _ _ := heap_alloc_new T (.cells #[.pointer (some ⟨B, 2, none⟩)] 176)
    rw [e4] at q4
    rw [← hW5] at hb5 ⊢
    exact ⟨⟨hb5, p03.later n4, p13.later n4, p23.later n4, q3.later n4⟩, q4⟩
  have hBl : B < w.heap.size := Blk.lt h
  have HSq := hid (all_seq (K := fun _ _ => True) (h.later hb5) hok (w.heap.size + 4) [w.heap.size + 4, B] (hB.2.cell 0) (by simp) (by simp) (fun g hg => by simp at hg; omega))
  have HB := hid hB
  have hl := s.last_len
  clear h hok hb5 hB
  refine (callsIn_wide (n := 3)).1 ?_
  refine callsIn_of_wp_marks Tryz.func110 rfl trivial ?_ rfl
  simp only [Tryz.ntmps110, List.size_toArray, List.length_cons, List.length_nil, Nat.reduceAdd, Nat.reduceSub, Array.replicate_succ, Array.replicate_zero, List.push_toArray, List.append_toArray, List.nil_append, List.cons_append]
  gi_wp2_with (refine ⟨trivial, ?_⟩; gi_at_call 114; refine (callsIn_wide.2 (all_any ⟨B, 2, none⟩ _)).mono ?_; rintro e w2 ⟨rfl, hw2⟩; obtain rfl := hw2.symm)
  clear hW5
  refine range_A (w.heap.size + 5) hs5 (gf := 127) rfl enters_all HSq.out (fun h k => h.trans k) ?kb (fun k Z => FdI w q n dn0 false Z ∧ findD q n s.last = findD q n (s.last.drop k)) (fun _ Z => ∃ d : Dn, findD q n s.last = some d ∧ FdI w q n d true Z) ?hI ?hIx (fun _ _ _ => trivial) ?h0 ?hps
    (fun args X => { tmps := #[.pointer (some ⟨B, 2, none⟩), .int .i64 q, .int .i64 n, undef, .pointer (some ⟨w.heap.size, 0, none⟩), .pointer (some ⟨w.heap.size + 1, 0, none⟩), .pointer (some ⟨w.heap.size + 1 + 1, 0, none⟩), .pointer (some ⟨w.heap.size + 1 + 1 + 1, 0, none⟩), .pointer (some ⟨X.heap.size, 0, none⟩), .pointer (some ⟨B, 2, none⟩), .func (.func 127) #[] #[.pointer (some ⟨w.heap.size + 1 + 1 + 1 + 1, 0, none⟩)], args.getD 0 undef, undef, undef, undef, undef, undef, undef, undef, undef, undef, undef, undef, undef], defers := [] })
    (fun args X => X.alloc (.cells (match args.getD 0 undef with | .agg cs => cs | _ => #[]) TDn)) ?hx1 ?hKa ?assign ?body ?done ?stop
  case kb => exact fun Z o hZ => ⟨by simp, fun g hg => World.putObj_heap_other (by simp at hg; omega)⟩
  case hI => exact fun k Z Z' h1 hc => ⟨h1.1.chg hc (fun g hg => by simp at hg; omega), h1.2⟩
  case hIx => exact fun k Z Z' h1 hc => by obtain ⟨d, h2, h3⟩ := h1; exact ⟨d, h2, h3.chg hc (fun g hg => by simp at hg; omega)⟩
  case h0 => exact ⟨HB.out.1, rfl⟩
  case hps =>
    rintro k args X ⟨_, rfl⟩
    rfl
  case hx1 => exact fun k args X _ => (Below.refl _ _).alloc (Nat.le_refl _) _
  case hKa => exact fun k args X _ hX => Kg.below ((Below.refl _ _).alloc (Nat.le_refl _) _) (fun g hg => by simp at hg; omega)
  case assign =>
    rintro l k args X L ⟨hk, rfl⟩ hL
    clear HSq HB
    gi_wp2
    exact hL
  case body =>
    rintro l k args X Y hk hX ⟨hI, hT⟩ ⟨hkm, rfl⟩ hc hsz
    have hbx : Blk (X.alloc (.cells #[.int .i64 (s.at k).seq, .int .i64 (s.at k).len, .int .i64 (s.at k).off] TDn)) X.heap.size _ _ := heap_alloc_new X _
    have hby := hbx.chg hc (by simp; omega)
    have HY := hid ((hI.chg (F := []) (Chg.of ((Below.refl _ X).alloc (Nat.le_refl _) _)) (fun g hg => by cases hg)).chg hc (fun g hg => by simp at hg; omega))
    have c0 : Y.cell? ⟨X.heap.size, 0, none⟩ = some (.int .i64 (s.at k).seq) := hby.cell 0
    have c1 : Y.cell? ⟨X.heap.size, 1, none⟩ = some (.int .i64 (s.at k).len) := hby.cell 1
    have c2 : Y.cell? ⟨X.heap.size, 2, none⟩ = some (.int .i64 (s.at k).off) := hby.cell 2
    have a0 : Y.cell? ⟨w.heap.size, 0, none⟩ = some (.int .i64 q) := HY.out.b0.cell 0
    have a1 : Y.cell? ⟨w.heap.size + 1, 0, none⟩ = some (.int .i64 n) := HY.out.b1.cell 0
    have r0 : Y.cell? ⟨w.heap.size + 1 + 1, 0, none⟩ = some (.int .i64 0) := HY.out.b2.cell 0
    have r1 : Y.cell? ⟨w.heap.size + 1 + 1, 1, none⟩ = some (.int .i64 0) := HY.out.b2.cell 1
    have r2 : Y.cell? ⟨w.heap.size + 1 + 1, 2, none⟩ = some (.int .i64 0) := HY.out.b2.cell 2
    have r3 : Y.cell? ⟨w.heap.size + 1 + 1 + 1, 0, none⟩ = some (.bool false) := HY.out.b3.cell 0
    have f0 : Y.frozen? ⟨w.heap.size + 1 + 1, 0, none⟩ = false := HY.out.b2.free 0
    have f1 : Y.frozen? ⟨w.heap.size + 1 + 1, 1, none⟩ = false := HY.out.b2.free 1
    have f2 : Y.frozen? ⟨w.heap.size + 1 + 1, 2, none⟩ = false := HY.out.b2.free 2
    have f3 : Y.frozen? ⟨w.heap.size + 1 + 1 + 1, 0, none⟩ = false := HY.out.b3.free 0
    have hst := findD_step (q := q) (n := n) hkm
    have HT1 := hid (fun (hh : (s.at k).seq = q ∧ (s.at k).len = n) => show findD q n s.last = some (s.at k) from by rw [hT, hst, if_pos hh])
    have HT2 := hid (fun (hh : ¬ ((s.at k).seq = q ∧ (s.at k).len = n)) => show findD q n s.last = findD q n (s.last.drop (k + 1)) from by rw [hT, hst, if_neg hh])
    have hXY : X.heap.size < Y.heap.size := by rw [hsz]; simp
    clear hI hT hc hsz hbx hby HSq HB hst
    by_cases h1 : (s.at k).seq = q
    · by_cases h2 : (s.at k).len = n
      · have HT3 := hid (HT1.out ⟨h1, h2⟩)
        have HSt := hid (HY.out.set (d' := s.at k) (k' := true) rfl)
        rw [h1, h2] at HSt
        rw [h1] at c0
        rw [h2] at c1
        clear HT1 HT2 h1 h2
        generalize (s.at k).off = e2 at *
        gi_wp2
        obtain ⟨hz1, hz2⟩ := HSt.out
        refine ⟨⟨?_, ?_⟩, _, HT3.out, hz1⟩
        · exact hz2.block _ (by omega) (by simp)
        · exact hz2.block _ (by omega) (by simp)
      · have HT3 := hid (HT2.out (fun hh => h2 hh.2))
        have hd : ((s.at k).len == n) = false := by simpa using h2
        rw [h1] at c0
        clear HT1 HT2 h1 h2
        generalize (s.at k).off = e2 at *
        generalize (s.at k).len = e1 at *
        gi_wp2
        exact ⟨⟨rfl, rfl⟩, Kg.refl _ _, HY.out, HT3.out⟩
    · have HT3 := hid (HT2.out (fun hh => h1 hh.1))
      have hd : ((s.at k).seq == q) = false := by simpa using h1
      clear HT1 HT2 h1
      generalize (s.at k).off = e2 at *
      generalize (s.at k).len = e1 at *
      generalize (s.at k).seq = e0 at *
      gi_wp2
      exact ⟨⟨rfl, rfl⟩, Kg.refl _ _, HY.out, HT3.out⟩
  case done =>
    rintro X hX ⟨hI, hT⟩ hD
    have hT0 : findD q n s.last = none := by rw [hT, List.drop_of_length_le (by rw [hl]; omega)]; rfl
    have HT0 := hid hT0
    have HI := hid hI
    have r0 : X.cell? ⟨w.heap.size + 1 + 1, 0, none⟩ = some (.int .i64 0) := hI.b2.cell 0
    have r1 : X.cell? ⟨w.heap.size + 1 + 1, 1, none⟩ = some (.int .i64 0) := hI.b2.cell 1
    have r2 : X.cell? ⟨w.heap.size + 1 + 1, 2, none⟩ = some (.int .i64 0) := hI.b2.cell 2
    have r3 : X.cell? ⟨w.heap.size + 1 + 1 + 1, 0, none⟩ = some (.bool false) := hI.b3.cell 0
    have f0 : X.frozen? ⟨w.heap.size + 1 + 1, 0, none⟩ = false := hI.b2.free 0
    have f1 : X.frozen? ⟨w.heap.size + 1 + 1, 1, none⟩ = false := hI.b2.free 1
    have f2 : X.frozen? ⟨w.heap.size + 1 + 1, 2, none⟩ = false := hI.b2.free 2
    have f3 : X.frozen? ⟨w.heap.size + 1 + 1 + 1, 0, none⟩ = false := hI.b3.free 0
    have HD := hid hD
    have HSt := hid (hI.set (d' := dn0) (k' := false) rfl)
    clear hI hT hD HSq HB hT0
    gi_wp2
    obtain ⟨hz1, hz2⟩ := HSt.out
    have hDf := (hz2.block _ (Array.getElem?_eq_some_iff.1 HD.out).1 (by simp)).trans HD.out
    have hz3 := hz1.chg (putObj_chg _ (w.heap.size + 5) _ (.deferred none) (Or.inl rfl)) (fun g hg => by simp at hg; omega)
    refine ⟨by simp, .inl ⟨_, _, rfl, run_takeDeferred hDf, ?_⟩⟩
    exact ⟨_, hz3.ret _ rfl rfl, by rw [HT0.out]; rfl, hz3.below⟩
  case stop =>
    rintro k X hk ⟨d, hd, hI⟩ hD
    have HT0 := hid hd
    have HQ := hid (hI.chg (putObj_chg X (w.heap.size + 5) _ (.deferred none) (Or.inl rfl)) (fun g hg => by simp at hg; omega))
    have HD := hid hD
    clear hd hI hD HSq HB
    gi_wp2
    refine ⟨by simp, .inl ⟨_, _, rfl, run_takeDeferred HD.out, ?_⟩⟩
    exact ⟨_, HQ.out.ret _ rfl rfl, by rw [HT0.out]; rfl, HQ.out.below⟩
end Go.Proofs.YtfgamkcnnijloaaGreat
namespace Go.Proofs.YtfgamkcnnijloaaGreat
open Go.RowKit Go.Shelf
variable {w w' : World} {B : Nat} {s : PSt}

/-- Decide's three answers. -/
def decV (x : Int × Bool × Int) : Value := .tuple #[.int .i64 x.1, .bool x.2.1, .int .i64 x.2.2]
theorem decV_eq (x : Int × Bool × Int) (a : Int) (b : Bool) (c : Int) (h : x = (a, b, c)) : decV x = .tuple #[.int .i64 a, .bool b, .int .i64 c] := by subst h; rfl
set_option maxHeartbeats 400000 in
theorem decide_any (hok : s.ok) (q n : Int) (w : World) : Calls Tryz.prog 72 #[.agg (psL s).toArray, .int .i64 q, .int .i64 n] w fun e w' => e = .returned (decV (decS s.next s.last q n)) ∧ Below w.heap.size w w' := by
  obtain ⟨W, hW⟩ : ∃ W, w.alloc (.cells (psL s).toArray TSt) = W := ⟨_, rfl⟩
  have hb : Below w.heap.size w W := by rw [← hW]; exact (Below.refl _ _).alloc (Nat.le_refl _) _
  have hs : SBox W w.heap.size s := by rw [← hW]; exact heap_alloc_new w _
  have hlt : w.heap.size < W.heap.size := by rw [← hW]; simp
  have c1 : W.cell? ⟨w.heap.size, 1, none⟩ = some (.int .i64 s.next) := Blk.cell hs 1
  have HF := hid (find_any hs hok q n)
  have HB := hid hb
  by_cases h0 : q = s.next
  · subst h0
    have HD := hid (decV_eq (decS s.next s.last s.next n) 0 false 0 (by unfold decS; rw [if_pos rfl]))
    clear hs hb HF
    generalize s.next = x at *
    go_enter Tryz.func72, Tryz.ntmps72
    go_wp2
    refine bodyPost_ret (results_tmp3 Tryz.results72 _ _ _) rfl ⟨by rw [HD.out]; rfl, HB.out⟩
  · have hne : (q == s.next) = false := by simpa using h0
    cases hf : findD q n s.last with
    | some d =>
      have HD := hid (decV_eq (decS s.next s.last q n) d.off true 0 (by unfold decS; rw [if_neg h0, hf]))
      rw [hf] at HF
      clear hs hb hf h0
      generalize s.next = x at *
      go_enter Tryz.func72, Tryz.ntmps72
      go_wp2_with (go_at_call 110; (with_reducible_and_instances (refine HF.out.mono ?_)); rintro e w2 ⟨rfl, hb2⟩; have HB2 := hid (HB.out.trans (hb2.mono HB.out.size)); clear hb2)
      refine bodyPost_ret (results_tmp3 Tryz.results72 _ _ _) rfl ⟨by rw [HD.out]; rfl, HB2.out.alloc HB2.out.size _⟩
    | none =>
      rw [hf] at HF
      have c1' := fun (X : World) (hX : Below W.heap.size W X) => (hX.cell (p := ⟨w.heap.size, 1, none⟩) hlt).trans c1
      have HC := hid c1'
      by_cases hl : q < s.next
      · have HD := hid (decV_eq (decS s.next s.last q n) 0 false 52 (by unfold decS; rw [if_neg h0, hf]; simp [hl]))
        have hd : decide (q < s.next) = true := by simpa using hl
        clear hs hb hf h0 hl c1'
        generalize s.next = x at *
        go_enter Tryz.func72, Tryz.ntmps72
        go_wp2_with (go_at_call 110; (with_reducible_and_instances (refine HF.out.mono ?_)); rintro e w2 ⟨rfl, hb2⟩; have HB2 := hid (HB.out.trans (hb2.mono HB.out.size)); have c9 := HC.out _ hb2; have l9 := Nat.lt_of_lt_of_le hlt hb2.size; clear hb2)
        refine bodyPost_ret (results_tmp3 Tryz.results72 _ _ _) rfl ⟨by rw [HD.out]; rfl, HB2.out.alloc HB2.out.size _⟩
      · have HD := hid (decV_eq (decS s.next s.last q n) 0 false 51 (by unfold decS; rw [if_neg h0, hf]; simp [hl]))
        have hd : decide (q < s.next) = false := by simpa using hl
        clear hs hb hf h0 hl c1'
        generalize s.next = x at *
        go_enter Tryz.func72, Tryz.ntmps72
        go_wp2_with (go_at_call 110; (with_reducible_and_instances (refine HF.out.mono ?_)); rintro e w2 ⟨rfl, hb2⟩; have HB2 := hid (HB.out.trans (hb2.mono HB.out.size)); have c9 := HC.out _ hb2; have l9 := Nat.lt_of_lt_of_le hlt hb2.size; clear hb2)
        refine bodyPost_ret (results_tmp3 Tryz.results72 _ _ _) rfl ⟨by rw [HD.out]; rfl, HB2.out.alloc HB2.out.size _⟩
theorem mark_any (k p e s : Int) (t : Bool) (v : Value) (w : World) :
    Calls Tryz.prog 71 #[.agg #[.int .i64 k, .int .i64 p, .int .i64 e, .int .i64 s, .bool t, v]] w fun r w' => r = .returned (.bool (!(k == 1))) ∧ w' = w.alloc (.cells #[.int .i64 k, .int .i64 p, .int .i64 e, .int .i64 s, .bool t, v] 30) := by
  go_enter Tryz.func71, Tryz.ntmps71
  go_wp2
  go_ret
  exact ⟨rfl, rfl⟩
/-- May it be an offset? -/
def isOff (n : Int) : Bool := decide (0 ≤ n) && decide (n ≤ 281474976710656)
theorem off_any (n : Int) (w : World) : Calls Tryz.prog 79 #[.int .i64 n] w fun r w' => r = .returned (.bool (isOff n)) ∧ w' = w := by
  unfold isOff
  cases h : decide (0 ≤ n)
  · go_enter Tryz.func79, Tryz.ntmps79
    go_wp2
    go_ret
    exact ⟨rfl, rfl⟩
  · go_enter Tryz.func79, Tryz.ntmps79
    go_wp2
    go_ret
    exact ⟨rfl, rfl⟩
set_option maxRecDepth 10000 in
theorem made_any {t M : Nat} (h : w.cell? ⟨t, 0, none⟩ = some (.map (some M))) : Calls Tryz.prog 70 #[.pointer (some ⟨t, 0, none⟩)] w fun r w' => r = .returned (.bool true) ∧ w' = w := by
  have hq := run_neq_map_nil (P := Tryz.prog) w 92 3 TSt (some M) Tryz.underlying92
  go_enter Tryz.func70, Tryz.ntmps70
  go_wp2
  go_ret
  exact ⟨rfl, rfl⟩
end Go.Proofs.YtfgamkcnnijloaaGreat
