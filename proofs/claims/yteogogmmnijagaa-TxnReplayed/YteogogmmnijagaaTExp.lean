/- askExpire and expire of package txn. -/
import Derived.Test.YteogogmmnijagaaTOver
import Derived.Test.YteogogmmnijagaaTInit
namespace Go.Proofs.Yteogogmmnijagaa
open Go.RowKit Go.Shelf
attribute [local go_sem] Oper.semAt_some
variable {w w' : World} {F : List Nat} {g M pb m c i : Nat} {v : Value} {Z : List (Pr × Sl)} {B : Bk}

theorem Blk.new (w : World) (cs : Array Value) (T : TypeId) : Blk (w.alloc (.cells cs T)) w.heap.size cs T := heap_alloc_new w _
theorem Blk.al {b : Nat} {cs : Array Value} {T : TypeId} (h : Blk w b cs T) (o : Obj) : Blk (w.alloc o) b cs T := h.later ((Below.refl _ _).alloc (Nat.le_refl _) _)
theorem below_chg {F : List Nat} {N : Nat} {w X Y : World} (h : Below N w X) (hc : Chg F X Y) (hN : N ≤ w.heap.size) (hF : ∀ b ∈ F, N ≤ b) : Below N w Y :=
  ⟨hc.os.trans h.os, hc.tape.trans h.tape, hc.output.trans h.output, Nat.le_trans h.size hc.size, fun k hk => (hc.block k (Nat.lt_of_lt_of_le hk (Nat.le_trans hN h.size)) (fun hm => by have := hF _ hm; omega)).trans (h.block k hk)⟩
/-- What is asked ahead of an Expire. -/
def Bk.ask5 (B : Bk) (x : Ev) : Bool × Int := (decide (cntO B x.now B.ps.length = 0), 0)
/-- What askExpire keeps while its loop runs. -/
structure AxI (w : World) (g : Nat) (now : Int) (d : Bool) (Z : World) : Prop where
  below : Below w.heap.size w Z
  b1 : Blk Z (w.heap.size + 1) #[.bool d] 4
  b2 : Blk Z (w.heap.size + 2) #[.int .i64 0] 26
  b3 : Blk Z (w.heap.size + 3) #[.pointer (some ⟨g, 0, none⟩)] 23
  b4 : Blk Z (w.heap.size + 4) #[.int .i64 now] 3
theorem AxI.chg {now : Int} {d : Bool} {X Y : World} {G : List Nat} (h : AxI w g now d X) (hc : Chg G X Y) (hG : ∀ b ∈ G, w.heap.size + 5 ≤ b) : AxI w g now d Y :=
  ⟨below_chg h.below hc (Nat.le_refl _) (fun b hb => by have := hG b hb; omega), h.b1.chg hc (fun hm => by have := hG _ hm; omega), h.b2.chg hc (fun hm => by have := hG _ hm; omega), h.b3.chg hc (fun hm => by have := hG _ hm; omega), h.b4.chg hc (fun hm => by have := hG _ hm; omega)⟩
theorem AxI.set {now : Int} {d : Bool} {X : World} (h : AxI w g now d X) (d' : Bool) {Y : World} (hY : Y = (X.setCell ⟨w.heap.size + 1, 0, none⟩ (.bool d')).setCell ⟨w.heap.size + 1 + 1, 0, none⟩ (.int .i64 0)) :
    AxI w g now d' Y ∧ Chg [w.heap.size + 1, w.heap.size + 2] X Y := by
  have hc : Chg [w.heap.size + 1, w.heap.size + 2] X Y := by rw [hY]; exact ((Chg.refl _ X).set (Or.inl (by simp)) _ _).set (Or.inl (by simp)) _ _
  refine ⟨⟨below_chg h.below hc (Nat.le_refl _) (fun b hb => by simp at hb; omega), ?_, ?_, h.b3.chg hc (by simp), h.b4.chg hc (by simp)⟩, hc⟩
  · rw [hY]; exact (h.b1.set 0 (.bool d')).other (by omega) 0 _
  · rw [hY]; exact (h.b2.other (C := w.heap.size + 1) (by omega) 0 (.bool d')).set 0 (.int .i64 0)
theorem AxI.ret {now : Int} {d : Bool} {X : World} (h : AxI w g now d X) (tmps : Array Value) (h4 : tmps[4]? = some (.pointer (some ⟨w.heap.size + 1, 0, none⟩))) (h5 : tmps[5]? = some (.pointer (some ⟨w.heap.size + 1 + 1, 0, none⟩))) :
    (results (Try.f32) tmps).run Try.prog X = .ok (.tuple #[.bool d, .int .i64 0]) X := by
  have c0 : X.cell? ⟨w.heap.size + 1, 0, none⟩ = some (.bool d) := h.b1.cell 0
  have c1 : X.cell? ⟨w.heap.size + 1 + 1, 0, none⟩ = some (.int .i64 0) := h.b2.cell 0
  simp only [results, Try.results32]
  simp [go_sem, h4, h5, c0, c1]
set_option maxRecDepth 100000 in
set_option maxHeartbeats 1000000 in
theorem askExpire_any (h : BP w F g M v Z B) (hB : BkOk B) (x : Ev) : Calls Try.prog 32 #[.pointer (some ⟨g, 0, none⟩), .agg (evA x)] w (AskP w (B.ask5 x)) := by
  obtain ⟨k, nm, a, b, cc, d, now, q⟩ := x
  unfold Bk.ask5
  dsimp only [Ev.kind, Ev.name, Ev.prod, Ev.ep, Ev.place, Ev.tmo, Ev.now, Ev.yes] at *
  show Calls Try.prog 32 #[.pointer (some ⟨g, 0, none⟩), .agg #[.int .i64 k, .string (nmS nm), .int .i64 a, .int .i64 b, .int .i64 cc, .int .i64 d, .int .i64 now, .bool q]] w (AskP w (decide (cntO B now B.ps.length = 0), 0))
  generalize nmS nm = t
  obtain ⟨W5, hW5⟩ : ∃ W5, ((((w.alloc (.cells #[.int .i64 k, .string t, .int .i64 a, .int .i64 b, .int .i64 cc, .int .i64 d, .int .i64 now, .bool q] TEv)).alloc (.cells #[.bool false] 4)).alloc (.cells #[.int .i64 0] 26)).alloc (.cells #[.pointer (some ⟨g, 0, none⟩)] 23)).alloc (.cells #[.int .i64 now] 3) = W5 := ⟨_, rfl⟩
  have hs5 : W5.heap.size = w.heap.size + 5 := by rw [← hW5]; simp
  have hI : AxI w g now false W5 := by
    rw [← hW5]
    refine ⟨(((((Below.refl _ w).alloc (Nat.le_refl _) _).alloc (by simp) _).alloc (by simp; omega) _).alloc (by simp; omega) _).alloc (by simp; omega) _, ?_, ?_, ?_, ?_⟩
    · have := Blk.new (w.alloc (.cells #[.int .i64 k, .string t, .int .i64 a, .int .i64 b, .int .i64 cc, .int .i64 d, .int .i64 now, .bool q] TEv)) #[.bool false] 4
      rw [World.size_alloc] at this
      exact ((this.al _).al _).al _
    · have := Blk.new ((w.alloc (.cells #[.int .i64 k, .string t, .int .i64 a, .int .i64 b, .int .i64 cc, .int .i64 d, .int .i64 now, .bool q] TEv)).alloc (.cells #[.bool false] 4)) #[.int .i64 0] 26
      rw [World.size_alloc, World.size_alloc] at this
      exact (this.al _).al _
    · have := Blk.new (((w.alloc (.cells #[.int .i64 k, .string t, .int .i64 a, .int .i64 b, .int .i64 cc, .int .i64 d, .int .i64 now, .bool q] TEv)).alloc (.cells #[.bool false] 4)).alloc (.cells #[.int .i64 0] 26)) #[.pointer (some ⟨g, 0, none⟩)] 23
      rw [World.size_alloc, World.size_alloc, World.size_alloc] at this
      exact this.al _
    · have := Blk.new ((((w.alloc (.cells #[.int .i64 k, .string t, .int .i64 a, .int .i64 b, .int .i64 cc, .int .i64 d, .int .i64 now, .bool q] TEv)).alloc (.cells #[.bool false] 4)).alloc (.cells #[.int .i64 0] 26)).alloc (.cells #[.pointer (some ⟨g, 0, none⟩)] 23)) #[.int .i64 now] 3
      rw [World.size_alloc, World.size_alloc, World.size_alloc, World.size_alloc] at this
      exact this
  have HK : Hid (∀ k X, AxI w g now false X → OverK B now (w.heap.size + 3) (w.heap.size + 4) g M v k X) := fun k X hX => ⟨hX.b3.cell 0, hX.b4.cell 0, F, Z, B, h.later hX.below, hB, rfl, fun _ _ => rfl⟩
  have HSq := hid (over_seq (g := g) (M := M) (v := v) hB now (w.heap.size + 3) (w.heap.size + 4) W5 h.vform (fun hp => by obtain ⟨pb, c, e, -⟩ := h.form hp; exact ⟨pb, c, e⟩))
  have HI := hid hI
  generalize hN : cntO B now B.ps.length = N at *
  have HN := hid hN
  clear h hB hI hN
  refine (callsIn_wide (n := 3)).1 ?_
  refine callsIn_of_wp_marks Try.func32 rfl trivial ?_ rfl
  simp only [Try.ntmps32, List.size_toArray, List.length_cons, List.length_nil, Nat.reduceAdd, Nat.reduceSub, Array.replicate_succ, Array.replicate_zero, List.push_toArray, List.append_toArray, List.nil_append, List.cons_append]
  gi_wp2_with (refine ⟨trivial, ?_⟩; gi_at_call 49; refine (callsIn_wide.2 (over_any ⟨g, 0, none⟩ now _)).mono ?_; rintro e w2 ⟨rfl, hw2⟩; obtain rfl := hw2.symm)
  clear hW5
  refine range_R (w.heap.size + 5) hs5 (gf := 64) rfl enters_over HSq.out (fun _ _ => trivial) (fun _ _ _ => trivial) (fun k X => k = 0 ∧ AxI w g now false X) (fun k X => 1 ≤ k ∧ AxI w g now false X) ?hI ?hIx (fun k X hX => HK.out k X hX.2) ⟨rfl, HI.out⟩ ?hps ?hRc
    (fun args => { tmps := #[.pointer (some ⟨g, 0, none⟩), .agg #[.int .i64 k, .string t, .int .i64 a, .int .i64 b, .int .i64 cc, .int .i64 d, .int .i64 now, .bool q], undef, .pointer (some ⟨w.heap.size, 0, none⟩), .pointer (some ⟨w.heap.size + 1, 0, none⟩), .pointer (some ⟨w.heap.size + 1 + 1, 0, none⟩), .pointer (some ⟨g, 0, none⟩), .pointer (some ⟨w.heap.size, 6, none⟩), .int .i64 now, .func (.func 64) #[] #[.pointer (some ⟨w.heap.size + 1 + 1 + 1, 0, none⟩), .pointer (some ⟨w.heap.size + 1 + 1 + 1 + 1, 0, none⟩)], args.getD 0 undef], defers := [] }) ?assign ?body ?done ?stop
  case hI => exact fun k X Y h1 hc => ⟨h1.1, h1.2.chg hc (fun b hb => by simp at hb; omega)⟩
  case hIx => exact fun k X Y h1 hc => ⟨h1.1, h1.2.chg hc (fun b hb => by simp at hb; omega)⟩
  case hps => rintro k args X ⟨j, pb, c, -, -, -, -, rfl⟩; rfl
  case hRc => exact fun k args X o h1 _ _ => h1
  case assign =>
    rintro l k args X L ⟨j, pb, c, -, -, -, -, rfl⟩ hL
    clear HSq HI HK
    gi_wp2
    simpa using hL
  case body =>
    rintro l k args X hk hX ⟨rfl, hI⟩ -
    have HS := hid (hI.set false rfl)
    have c1 : X.cell? ⟨w.heap.size + 1, 0, none⟩ = some (.bool false) := hI.b1.cell 0
    have c2 : X.cell? ⟨w.heap.size + 1 + 1, 0, none⟩ = some (.int .i64 0) := hI.b2.cell 0
    have f1 : X.frozen? ⟨w.heap.size + 1, 0, none⟩ = false := hI.b1.free 0
    have f2 : X.frozen? ⟨w.heap.size + 1 + 1, 0, none⟩ = false := hI.b2.free 0
    clear HSq HI HK hI
    gi_wp2
    obtain ⟨h1, h2⟩ := HS.out
    exact ⟨⟨h2.block _ (by omega) (by simp), h2.block _ (by omega) (by simp)⟩, Nat.le_refl _, h1⟩
  case done =>
    rintro X hX ⟨hk, hI⟩ hD
    have HS := hid (hI.set true rfl)
    have HD := hid hD
    have HN0 := hid hk
    have c1 : X.cell? ⟨w.heap.size + 1, 0, none⟩ = some (.bool false) := hI.b1.cell 0
    have c2 : X.cell? ⟨w.heap.size + 1 + 1, 0, none⟩ = some (.int .i64 0) := hI.b2.cell 0
    have f1 : X.frozen? ⟨w.heap.size + 1, 0, none⟩ = false := hI.b1.free 0
    have f2 : X.frozen? ⟨w.heap.size + 1 + 1, 0, none⟩ = false := hI.b2.free 0
    clear HSq HI HK hI hD hk
    gi_wp2
    obtain ⟨h1, h2⟩ := HS.out
    have hDf := (h2.block _ (Array.getElem?_eq_some_iff.1 HD.out).1 (by simp)).trans HD.out
    have h3 := h1.chg (putObj_chg _ (w.heap.size + 5) _ (.deferred none) (Or.inl rfl)) (fun b hb => by simp at hb; omega)
    refine ⟨by simp, .inl ⟨_, _, rfl, run_takeDeferred hDf, ?_⟩⟩
    exact ⟨_, h3.ret _ rfl rfl, by simp [HN0.out], h3.below⟩
  case stop =>
    rintro k X hk ⟨hk1, hI⟩ hD
    have HQ := hid (hI.chg (putObj_chg X (w.heap.size + 5) _ (.deferred none) (Or.inl rfl)) (fun b hb => by simp at hb; omega))
    have HD := hid hD
    have HN0 : Hid (¬ N = 0) := hid (by omega)
    clear HSq HI HK hI hD hk
    gi_wp2
    refine ⟨by simp, .inl ⟨_, _, rfl, run_takeDeferred HD.out, ?_⟩⟩
    exact ⟨_, HQ.out.ret _ rfl rfl, by simp [HN0.out], HQ.out.below⟩
/-- A producer whose time is over. -/
def Pr.expire (p : Pr) : Pr := Pr.decide { p with ep := min (p.ep + 1) 2147483647 } false
theorem settle_ok {p : Pr} (h : PrOk p) : PrOk p.settle := by
  unfold Pr.settle
  split
  · exact ⟨h.tmo, h.ep, Or.inl rfl, h.since, h.rise, h.cnt⟩
  · exact h
theorem decide_ok {p : Pr} (h : PrOk p) (y : Bool) : PrOk (p.decide y) := settle_ok ⟨h.tmo, h.ep, by cases y; exact Or.inr (Or.inr (Or.inr rfl)); exact Or.inr (Or.inr (Or.inl rfl)), h.since, h.rise, h.cnt⟩
theorem expire_ok {p : Pr} (h : PrOk p) : PrOk p.expire := decide_ok (p := { p with ep := min (p.ep + 1) 2147483647 }) ⟨h.tmo, by have := h.ep; show 0 ≤ min (p.ep + 1) 2147483647 ∧ min (p.ep + 1) 2147483647 ≤ 2147483647; omega, h.st, h.since, h.rise, h.cnt⟩ false
theorem upd_ok {p : Pr} (h : BkOk B) (hp : PrOk p) : BkOk (B.upd i p) := by
  refine ⟨by rw [Bk.upd_len]; exact h.cnt, fun nm j hj => by rw [Bk.upd_len]; exact h.num nm j hj, fun q hq => ?_⟩
  rcases List.mem_or_eq_of_mem_set hq with hq | rfl
  · exact h.pr q hq
  · exact hp
/-- All whose time is over. -/
def Bk.expire (B : Bk) (now : Int) : Bk := { B with ps := B.ps.map (fun p => if p.over now then p.expire else p) }
/-- What expire keeps while its loop runs. -/
structure ExI (w : World) (F : List Nat) (g M : Nat) (v : Value) (B : Bk) (now : Int) (k : Nat) (X : World) : Prop where
  chg : Chg F w X
  b1 : Blk X (w.heap.size + 1) #[.pointer (some ⟨g, 0, none⟩)] 23
  b2 : Blk X (w.heap.size + 2) #[.int .i64 now] 3
  book : ∃ Z' B', BP X F g M v Z' B' ∧ BkOk B' ∧ B'.ps.length = B.ps.length ∧ B'.num = B.num ∧ ∀ j, j < B.ps.length → B'.at j = if (B.at j).over now = true ∧ cntO B now j < k then (B.at j).expire else B.at j
theorem ExI.keep {now : Int} {k : Nat} {X Y : World} {G : List Nat} (h : ExI w F g M v B now k X) (hF : ∀ b ∈ F, b < w.heap.size) (hc : Chg G X Y) (hG : ∀ b ∈ G, w.heap.size + 3 ≤ b) : ExI w F g M v B now k Y := by
  obtain ⟨Z', B', h1, h2⟩ := h.book
  exact ⟨h.chg.trans hc (fun b hb => Or.inr (by have := hG b hb; omega)), h.b1.chg hc (fun hm => by have := hG _ hm; omega), h.b2.chg hc (fun hm => by have := hG _ hm; omega), Z', B', h1.chg hc (fun b hb hm => by have := hF b hb; have := hG b hm; omega), h2⟩
theorem at_len {j : Nat} (h : B.ps.length ≤ j) : B.at j = pr0 := by
  unfold Bk.at
  rw [List.getD_eq_getElem?_getD, List.getElem?_eq_none h]; rfl
theorem bk_ext {B C : Bk} (h1 : B.ps.length = C.ps.length) (h2 : B.num = C.num) (h3 : ∀ j, j < B.ps.length → B.at j = C.at j) : B = C := by
  obtain ⟨bp, bn⟩ := B
  obtain ⟨cp, cn⟩ := C
  have : bp = cp := by
    refine List.ext_getElem h1 (fun j hj hk => ?_)
    have := h3 j hj
    unfold Bk.at at this
    rw [List.getD_eq_getElem?_getD, List.getD_eq_getElem?_getD, List.getElem?_eq_getElem hj, List.getElem?_eq_getElem hk] at this
    exact this
  subst this
  have : bn = cn := h2
  subst this
  rfl
theorem expire_at (now : Int) {j : Nat} (hj : j < B.ps.length) : (B.expire now).at j = if (B.at j).over now = true then (B.at j).expire else B.at j := by
  unfold Bk.at Bk.expire
  rw [List.getD_eq_getElem?_getD, List.getElem?_map, List.getElem?_eq_getElem hj, List.getD_eq_getElem?_getD, List.getElem?_eq_getElem hj]
  rfl
theorem cntO_uniq {now : Int} {j l : Nat} (hj : j < B.ps.length) (hl : l < B.ps.length) (h1 : (B.at j).over now = true) (h2 : (B.at l).over now = true) (h : cntO B now j = cntO B now l) : j = l := by
  rcases Nat.lt_trichotomy j l with hh | hh | hh
  · have := cntO_le (B := B) (now := now) (show j + 1 ≤ l from hh)
    rw [cntO_yes hj h1] at this
    omega
  · exact hh
  · have := cntO_le (B := B) (now := now) (show l + 1 ≤ j from hh)
    rw [cntO_yes hl h2] at this
    omega
/-- One round. -/
theorem ExI.step {now : Int} {j : Nat} {X Y : World} (h : ExI w F g M v B now (cntO B now j) X) (hj : j < B.ps.length) (ho : (B.at j).over now = true) {B' : Bk} (hn : B'.num = B.num) (hl : B'.ps.length = B.ps.length) (hok : BkOk B') (ha : ∀ l, l < B.ps.length → B'.at l = if (B.at l).over now = true ∧ cntO B now l < cntO B now j then (B.at l).expire else B.at l)
    (hF : ∀ b ∈ F, b < w.heap.size) (hp : PMv X Y F g M v (B'.upd j (B'.at j).expire)) (hz : Y.heap.size = X.heap.size) : ExI w F g M v B now (cntO B now j + 1) Y := by
  obtain ⟨F', Z', hb, hc, hf⟩ := hp
  refine ⟨h.chg.trans hc (fun b hb => Or.inl hb), h.b1.chg hc (fun hm => by have := hF _ hm; omega), h.b2.chg hc (fun hm => by have := hF _ hm; omega), Z', _, hb.wide (fun b hb => (hf b hb).resolve_right (by omega)), upd_ok hok (expire_ok (hok.at j)), by rw [Bk.upd_len, hl], hn, fun l hll => ?_⟩
  have haj : B'.at j = B.at j := by rw [ha j hj, if_neg (by omega)]
  by_cases e : l = j
  · subst e
    rw [Bk.upd_at (by omega), haj, if_pos ⟨ho, by omega⟩]
  · rw [Bk.upd_other e, ha l hll]
    by_cases ho2 : (B.at l).over now = true
    · have : cntO B now l ≠ cntO B now j := fun e2 => e (cntO_uniq hll hj ho2 ho e2)
      by_cases h3 : cntO B now l < cntO B now j
      · rw [if_pos ⟨ho2, h3⟩, if_pos ⟨ho2, by omega⟩]
      · rw [if_neg (fun hh => h3 hh.2), if_neg (fun hh => by omega)]
    · rw [if_neg (fun hh => ho2 hh.1), if_neg (fun hh => ho2 hh.1)]
theorem ExI.end {now : Int} {X : World} (h : ExI w F g M v B now (cntO B now B.ps.length) X) : DMv w X F g (B.expire now) := by
  obtain ⟨Z', B', h1, -, h3, h4, h5⟩ := h.book
  have e : B' = B.expire now := by
    refine bk_ext (by rw [h3]; simp [Bk.expire]) h4 (fun j hj => ?_)
    rw [h5 j (by omega), expire_at now (by omega)]
    by_cases ho : (B.at j).over now = true
    · have := cntO_le (B := B) (now := now) (show j + 1 ≤ B.ps.length by omega)
      rw [cntO_yes (by omega) ho] at this
      rw [if_pos ⟨ho, by omega⟩, if_pos ho]
    · rw [if_neg (fun hh => ho hh.1), if_neg ho]
  rw [e] at h1
  exact ⟨F, ⟨M, v, Z', h1⟩, h.chg, fun b hb => Or.inl hb⟩
set_option maxRecDepth 100000 in
set_option maxHeartbeats 1000000 in
theorem expire_deed (h : BP w F g M v Z B) (hF : ∀ b ∈ F, b < w.heap.size) (hB : BkOk B) (x : Ev) : Calls Try.prog 37 #[.pointer (some ⟨g, 0, none⟩), .agg (evA x)] w fun e w' => e = .returned (.tuple #[]) ∧ DMv w w' F g (B.expire x.now) := by
  obtain ⟨k, nm, a, b, cc, d, now, q⟩ := x
  dsimp only [Ev.kind, Ev.name, Ev.prod, Ev.ep, Ev.place, Ev.tmo, Ev.now, Ev.yes] at *
  show Calls Try.prog 37 #[.pointer (some ⟨g, 0, none⟩), .agg #[.int .i64 k, .string (nmS nm), .int .i64 a, .int .i64 b, .int .i64 cc, .int .i64 d, .int .i64 now, .bool q]] w _
  generalize nmS nm = t
  obtain ⟨W3, hW3⟩ : ∃ W3, ((w.alloc (.cells #[.int .i64 k, .string t, .int .i64 a, .int .i64 b, .int .i64 cc, .int .i64 d, .int .i64 now, .bool q] TEv)).alloc (.cells #[.pointer (some ⟨g, 0, none⟩)] 23)).alloc (.cells #[.int .i64 now] 3) = W3 := ⟨_, rfl⟩
  have hs3 : W3.heap.size = w.heap.size + 3 := by rw [← hW3]; simp
  have hbl : Below w.heap.size w W3 := by rw [← hW3]; exact (((Below.refl _ w).alloc (Nat.le_refl _) _).alloc (by simp) _).alloc (by simp; omega) _
  have hI : ExI w F g M v B now 0 W3 := by
    refine ⟨Chg.of hbl, ?_, ?_, Z, B, h.later hbl, hB, rfl, rfl, fun j _ => by rw [if_neg (by omega)]⟩
    · have := Blk.new (w.alloc (.cells #[.int .i64 k, .string t, .int .i64 a, .int .i64 b, .int .i64 cc, .int .i64 d, .int .i64 now, .bool q] TEv)) #[.pointer (some ⟨g, 0, none⟩)] 23
      rw [World.size_alloc] at this
      rw [← hW3]
      exact this.al _
    · have := Blk.new ((w.alloc (.cells #[.int .i64 k, .string t, .int .i64 a, .int .i64 b, .int .i64 cc, .int .i64 d, .int .i64 now, .bool q] TEv)).alloc (.cells #[.pointer (some ⟨g, 0, none⟩)] 23)) #[.int .i64 now] 3
      rw [World.size_alloc, World.size_alloc] at this
      rw [← hW3]
      exact this
  have HK : Hid (∀ k X, ExI w F g M v B now k X → OverK B now (w.heap.size + 1) (w.heap.size + 2) g M v k X) := fun k X hX => by
    obtain ⟨Z', B', h1, h2, h3, -, h5⟩ := hX.book
    refine ⟨hX.b1.cell 0, hX.b2.cell 0, F, Z', B', h1, h2, h3, fun j hj => ?_⟩
    by_cases hl : j < B.ps.length
    · rw [h5 j hl, if_neg (by omega)]
    · rw [at_len (by omega), at_len (by omega)]
  have HSq := hid (over_seq (g := g) (M := M) (v := v) hB now (w.heap.size + 1) (w.heap.size + 2) W3 h.vform (fun hp => by obtain ⟨pb, c, e, -⟩ := h.form hp; exact ⟨pb, c, e⟩))
  have HI := hid hI
  have HF := hid hF
  clear h hB hI hF hbl
  refine (callsIn_wide (n := 3)).1 ?_
  refine callsIn_of_wp_marks Try.func37 rfl trivial ?_ rfl
  simp only [Try.ntmps37, List.size_toArray, List.length_cons, List.length_nil, Nat.reduceAdd, Nat.reduceSub, Array.replicate_succ, Array.replicate_zero, List.push_toArray, List.append_toArray, List.nil_append, List.cons_append]
  gi_wp2_with (refine ⟨trivial, ?_⟩; gi_at_call 49; refine (callsIn_wide.2 (over_any ⟨g, 0, none⟩ now _)).mono ?_; rintro e w2 ⟨rfl, hw2⟩; obtain rfl := hw2.symm)
  clear hW3
  refine range_R (w.heap.size + 3) hs3 (gf := 64) rfl enters_over HSq.out (fun _ _ => trivial) (fun _ _ _ => trivial) (fun k X => ExI w F g M v B now k X) (fun _ _ => False) ?hI (fun _ _ _ h _ => h) HK.out HI.out ?hps ?hRc
    (fun args => { tmps := #[.pointer (some ⟨g, 0, none⟩), .agg #[.int .i64 k, .string t, .int .i64 a, .int .i64 b, .int .i64 cc, .int .i64 d, .int .i64 now, .bool q], undef, .pointer (some ⟨w.heap.size, 0, none⟩), args.getD 0 undef, .pointer (some ⟨g, 0, none⟩), .pointer (some ⟨w.heap.size, 6, none⟩), .int .i64 now, .func (.func 64) #[] #[.pointer (some ⟨w.heap.size + 1, 0, none⟩), .pointer (some ⟨w.heap.size + 1 + 1, 0, none⟩)], args.getD 0 undef, undef, undef, undef, undef, undef, undef, undef, undef, undef, undef, undef], defers := [] }) ?assign ?body ?done ?stop
  case hI => exact fun k X Y h1 hc => h1.keep HF.out hc (fun b hb => by simp at hb; omega)
  case hps => rintro k args X ⟨j, pb, c, -, -, -, -, rfl⟩; rfl
  case hRc => exact fun k args X o h1 _ _ => h1
  case assign =>
    rintro l k args X L ⟨j, pb, c, -, -, -, -, rfl⟩ hL
    clear HSq HI HK HF
    gi_wp2
    exact hL
  case body =>
    rintro l k args X hk hX hI ⟨j, pb, c, hv, hj, ho, rfl, rfl⟩
    obtain ⟨Z', B', h1, h2, h3, h4, h5⟩ := hI.book
    have h1' := h1
    rw [hv] at h1
    have haj : B'.at j = B.at j := by rw [h5 j hj, if_neg (by omega)]
    have hj' : j < B'.ps.length := by omega
    obtain ⟨s, hs, -, -⟩ := h1.get hj'
    obtain ⟨-, ce, -, -, -, fz⟩ := h1.cells hj' hs
    have f1 := fz (j * 5 + 1)
    obtain ⟨e1, e2⟩ := (h2.at j).ep
    have n1 := h1.num hj' hs 1 (by decide) { B'.at j with ep := min ((B'.at j).ep + 1) 2147483647 } (.int .i64 (min ((B'.at j).ep + 1) 2147483647)) rfl rfl
    have hD := decide_any n1 (i := j) (by rw [Bk.upd_len]; exact hj') false
    rw [Bk.upd_at hj', Bk.upd_upd] at hD
    have hch : Chg F X (X.setCell ⟨pb, j * 5 + 1, none⟩ (.int .i64 (min ((B'.at j).ep + 1) 2147483647))) := (Chg.refl _ _).set (Or.inl (h1.inV pb rfl)) _ _
    have HD : Hid (Calls Try.prog 50 #[Ptr pb j, .bool false] (X.setCell ⟨pb, j * 5 + 1, none⟩ (.int .i64 (min ((B'.at j).ep + 1) 2147483647))) fun e w' => e = .returned (.tuple #[]) ∧ (w'.heap[w.heap.size + 3]? = X.heap[w.heap.size + 3]? ∧ w'.heap[w.heap.size + 3 + 1]? = X.heap[w.heap.size + 3 + 1]?) ∧ ExI w F g M v B now (cntO B now j + 1) w') := hD.mono (fun r w2 hh => by
      have hp := PMv.trans hch hh.2.1
      rw [← hv] at hp
      obtain ⟨F', Z2, hb2, hc2, hf2⟩ := id hp
      refine ⟨hh.1, ⟨hc2.block _ (by omega) (fun hm => by have := HF.out _ hm; omega), hc2.block _ hX (fun hm => by have := HF.out _ hm; omega)⟩, hI.step hj ho h4 h3 h2 h5 HF.out hp (hh.2.2.trans (by simp))⟩)
    clear HSq HI HK HF n1 hD hch h1 h1' hI h5 h2 hs
    generalize (B'.at j).ep = pe at *
    unfold Ptr at *
    generalize j * 5 = o at *
    gi_wp2_with (refine ⟨trivial, ?_⟩; gi_at_call 50; refine (CallsIn.inRound l (callsIn_wide.2 HD.out)).mono ?_; rintro e w2 ⟨rfl, hw2, hw3⟩; have HE := hid hw3; have HE2 := hid hw2; clear hw3 hw2)
    exact ⟨HE2.out, trivial, HE.out⟩
  case done =>
    rintro X hX hI hD
    have HE := hid ((hI.keep HF.out (putObj_chg X (w.heap.size + 3) _ (.deferred none) (Or.inl rfl)) (fun b hb => by simp at hb; omega)).end)
    have HD := hid hD
    clear HSq HI HK HF hI hD
    gi_wp2
    refine ⟨by simp, .inl ⟨_, _, rfl, run_takeDeferred HD.out, ?_⟩⟩
    exact ⟨_, results_none rfl _ _ _, rfl, HE.out⟩
  case stop => exact fun k X hk h _ => h.elim
end Go.Proofs.Yteogogmmnijagaa
