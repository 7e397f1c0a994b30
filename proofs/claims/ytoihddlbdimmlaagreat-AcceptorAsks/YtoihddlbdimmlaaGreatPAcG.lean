/- Stores that are put one place behind the other: what a Put at the tail makes of them. Ask of the bytes of an Ask that may be, where the store has power and room. -/
import Derived.Test.YtoihddlbdimmlaaGreatPOpen
import Derived.Test.YtoihddlbdimmlaaGreatPAcA
import Derived.Test.YtoihddlbdimmlaaGreatPAcA2
import Derived.Test.YtoihddlbdimmlaaGreatPAcB
namespace Go.Proofs.YtoihddlbdimmlaaGreat.Ac
open Go.RowKit

/-- A store with power and no fuse, of which nothing is sealed or given up, and whose slots lie ahead of the tails. -/
structure Inv (s : SSt) : Prop where
  free : s.d.free
  clean : s.d.clean
  up : s.fallen = false
  logs : ∀ g, (s.log g).sealed = false ∧ (s.log g).trim = 0
  slots : ∀ g p, (s.log g).tail ≤ p → s.slots g p = none
theorem inv0 (n : Nat) : Inv (sst0 (newD n)) := by
  obtain ⟨f, c, _⟩ := new_free n
  exact ⟨f, c, rfl, fun _ => ⟨rfl, rfl⟩, fun _ _ _ => rfl⟩
theorem look_nat (s : SSt) (g : Nat) : s.look (g : Int) = s.log g := by
  unfold SSt.look
  rw [if_pos (by omega)]
  simp
theorem put_next {s : SSt} (h : Inv s) (g : Nat) (hg : g < 281474976710656) (ht : (s.log g).tail < 4096) (data : List Nat) (hd : data.length ≤ 65536) (hr : s.fin + partsN (13 + data.length) ≤ s.d.bs.length) :
    ∃ s', s.put (g : Int) (((s.look (g : Int)).tail : Nat) : Int) data false = (0, s') ∧ Inv s' ∧ s'.num = s.num + 1 ∧ s'.fin = s.fin + partsN (13 + data.length) ∧ s'.d.bs.length = s.d.bs.length ∧ (s'.log g).tail = (s.log g).tail + 1 ∧ ∀ g', g' ≠ g → s'.log g' = s.log g' := by
  rw [look_nat]
  obtain ⟨d, hrec, hf, hc, hl⟩ := record_free h.free h.clean ⟨1, g, (s.log g).tail, data⟩ hr
  have hsl := h.slots g (s.log g).tail (Nat.le_refl _)
  have hlg := h.logs g
  have e1 : s.put (g : Int) (((s.log g).tail : Nat) : Int) data false = s.record ⟨1, g, (s.log g).tail, data⟩ := by
    unfold SSt.put
    have i1 : isLogletN (g : Int) = true := by simp [isLogletN]; omega
    have i2 : isPlaceN (((s.log g).tail : Nat) : Int) = true := by simp [isPlaceN]; omega
    have i3 : s.down = false := by simp [SSt.down, h.up, h.free.on]
    rw [i1, i2, i3]
    simp only [Bool.and_self, if_true, Int.toNat_natCast, Bool.false_eq_true, if_false]
    rw [if_neg (by omega), if_neg (by omega), hsl]
    simp [hlg.1]
  have e2 : ({ s with d := d } : SSt).takeE ⟨1, g, (s.log g).tail, data⟩ = { s with d := d, slots := fun i q => if i = g ∧ q = (s.log g).tail then some data else s.slots i q, logs := fun j => if j = g then some ⟨(s.log g).tail + 1, (s.log g).trim, (s.log g).sealed⟩ else s.logs j, num := s.num + 1, fin := s.fin + partsN (13 + data.length) } := by
    have hlog : ∀ j, ({ s with d := d } : SSt).log j = s.log j := fun j => rfl
    simp only [SSt.takeE, SSt.doE, SSt.fill, if_true, hlog]
    rw [if_pos ⟨hsl, by omega⟩]
    simp [SSt.setLog, SSt.setSlot, Ent.parts]
  rw [e2] at hrec
  refine ⟨_, e1.trans hrec, ⟨hf, hc, h.up, fun j => ?_, fun j q hq => ?_⟩, rfl, rfl, hl, ?_, fun j hj => ?_⟩
  · unfold SSt.log
    simp only
    split
    · exact ⟨hlg.1, hlg.2⟩
    · exact h.logs j
  · by_cases hj : j = g
    · subst hj
      have hq' : (s.log j).tail + 1 ≤ q := by simpa [SSt.log] using hq
      simp only
      rw [if_neg (by omega)]
      exact h.slots j q (by omega)
    · have hq' : (s.log j).tail ≤ q := by simpa [SSt.log, hj] using hq
      simp only
      rw [if_neg (by simp [hj])]
      exact h.slots j q hq'
  · simp [SSt.log]
  · simp [SSt.log, hj]
end Go.Proofs.YtoihddlbdimmlaaGreat.Ac
namespace Go.Proofs.YtoihddlbdimmlaaGreat.Ac
open Go.RowKit Go.Shelf Crcm
variable {w w' W : World} {F : List Nat} {B : Nat} {s : SSt} {kn : Nat → Nat → Option Kn}

theorem frame_facts (k g v b : Nat) (l : List Nat) (hm : askMay k g v b l.length = true) : unpackN (frameBs 3 (askN k g v b l)) 3 19 = true ∧ bodyAt (frameBs 3 (askN k g v b l)) 0 = askN k g v b l ∧ askIn (askN k g v b l) = true ∧ askK (askN k g v b l) = k ∧ askG (askN k g v b l) = g ∧ askW (askN k g v b l) = v ∧ askB (askN k g v b l) = b ∧ (askN k g v b l).drop 19 = l := by
  obtain ⟨h1, h2, h3, h4, h5⟩ := askMay_lim hm
  have hl := askN_length k g v b l
  obtain ⟨u1, u2⟩ := unpack_frame 3 19 (askN k g v b l) (by omega) (by omega) (by omega)
  obtain ⟨a1, a2, a3, a4, a5⟩ := askBack k g v b l (by omega) h2 h3 h4
  refine ⟨u1, u2, ?_, a1, a2, a3, a4, a5⟩
  unfold askIn
  rw [a1, a2, a3, a4, hl, show 19 + l.length - 19 = l.length by omega]
  exact hm
theorem frame_len (k g v b : Nat) (l : List Nat) (hm : askMay k g v b l.length = true) {q : Part} {w : World} (hq : q.l = frameBs 3 (askN k g v b l)) (hk : q.ok w) : q.len ≤ 1000000000000000 := by
  obtain ⟨h1, h2, h3, h4, h5⟩ := askMay_lim hm
  have h0 : q.l.length = q.len := hk.1
  rw [hq, frameBs_length, askN_length] at h0
  omega
theorem few_of {d : DSt} (h : d.clean) : ∀ x ∈ d.bs, x.vs.length ≤ 1000000 := fun x hx => by rw [h x hx]; simp
open Classical in
/-- What is known behind a change, or where there is none. -/
noncomputable def knTo (kn : Nat → Nat → Option Kn) (g v : Nat) (k : Kn) : Nat → Nat → Option Kn := if knAt kn g v = k then kn else knSet kn g v k
theorem knTo_at (kn : Nat → Nat → Option Kn) (g v : Nat) (k : Kn) : knAt (knTo kn g v k) g v = k := by
  unfold knTo
  split
  · assumption
  · exact knSet_at _ _ _ _
theorem knTo_same {g v : Nat} {k : Kn} (h : knAt kn g v = k) : knTo kn g v k = kn := by unfold knTo; rw [if_pos h]
theorem knTo_other (kn : Nat → Nat → Option Kn) (g v : Nat) (k : Kn) (g' v' : Nat) (h : ¬ (g' = g ∧ v' = v)) : knTo kn g v k g' v' = kn g' v' := by
  unfold knTo
  split
  · rfl
  · simp [knSet, h]
/-- keep where the store has room. -/
theorem keep_free (h : Inv s) (g v : Nat) (hg : g < 281474976710656) (hv : v < 281474976710656) (k : Kn) (hk : k.ok) (ht : (s.log g).tail < 4096) (hr : s.fin + 20 ≤ s.d.bs.length ∨ s.fin + partsN (32 + k.v.length) ≤ s.d.bs.length) :
    ∃ s', Inv s' ∧ s'.fin ≤ s.fin + partsN (32 + k.v.length) ∧ s'.d.bs.length = s.d.bs.length ∧ (s'.log g).tail ≤ (s.log g).tail + 1 ∧ (∀ g', g' ≠ g → s'.log g' = s.log g') ∧ ∀ (W : World) (F : List Nat) (B : Nat), AUp W F B s kn → Calls Tryz.prog 63 #[.pointer (some ⟨B, 0, none⟩), .agg #[.int .i64 (g : Int), .int .i64 (v : Int)], knV k] W fun x w' => x = .returned (.int .i64 0) ∧ AMoved F B s' (knTo kn g v k) W w' := by
  by_cases he : knAt kn g v = k
  · refine ⟨s, h, Nat.le_add_right _ _, rfl, Nat.le_succ _, fun _ _ => rfl, fun W F B hu => ?_⟩
    rw [knTo_same he]
    obtain ⟨S, D, M, FD, G, X, Y, fx, fy, f, A, hap⟩ := hu
    exact (keep_same hap g v hg hv k he).mono fun x w' hx => ⟨hx.1, AUp.moved ⟨S, D, M, FD, G, X, Y, fx, fy, f, A, hap⟩ hx.2⟩
  · have hl := textN_length v k.p k.b k.s.toNat k.v
    have hkl := hk.len
    have hpn : 13 + (textN v k.p k.b k.s.toNat k.v).length = 32 + k.v.length := by omega
    have h20 : partsN (32 + k.v.length) ≤ 20 := by unfold partsN; omega
    obtain ⟨s', p1, p2, p3, p4, p5, p6, p7⟩ := put_next h g hg ht (textN v k.p k.b k.s.toNat k.v) (by omega) (by rw [hpn]; omega)
    rw [hpn] at p4
    refine ⟨s', p2, Nat.le_of_eq p4, p5, Nat.le_of_eq p6, p7, fun W F B hu => ?_⟩
    obtain ⟨S, D, M, FD, G, X, Y, fx, fy, f, A, hap⟩ := hu
    refine (keep_diff hap g v hg hv k hk he (few_of h.clean) 0 s' p1 (by omega) (fun _ => by omega)).mono fun x w' hx => ?_
    have e : knIf kn g v k 0 = knTo kn g v k := by unfold knIf knTo; rw [if_pos rfl, if_neg he]
    rw [e] at hx
    exact hx
theorem go_1 (hu : AUp W F B s kn) (g v b : Nat) (l : List Nat) (hm : askMay 1 g v b l.length = true) (q : Part) (hq : q.l = frameBs 3 (askN 1 g v b l)) (hk : q.ok W) (hlc : q.len ≤ q.cap)
    (k' : Kn) (hr : prepN (knAt kn g v) b = (0, k')) (s' : SSt) (hkeep : ∀ (W : World) (F : List Nat) (B : Nat), AUp W F B s kn → Calls Tryz.prog 63 #[.pointer (some ⟨B, 0, none⟩), .agg #[.int .i64 (g : Int), .int .i64 (v : Int)], knV k'] W fun x w' => x = .returned (.int .i64 0) ∧ AMoved F B s' (knTo kn g v k') W w') :
    Calls Tryz.prog 29 #[.pointer (some ⟨B, 0, none⟩), .slice q.ad q.len q.cap] W (APost F B s' (knTo kn g v k') (frameBs 4 (ansN 0 v k'.p k'.b k'.s.toNat k'.v)) W) := by
  obtain ⟨u1, u2, u3, a1, a2, a3, a4, a5⟩ := frame_facts 1 g v b l hm
  obtain ⟨h1, h2, h3, h4, h5⟩ := askMay_lim hm
  have hlen := frame_len 1 g v b l hm hq hk
  have r := ask_1 hu q.ad q.len q.cap q.l hk hlc hlen (by rw [hq]; exact u1) (by rw [hq, u2]; exact u3) (by rw [hq, u2]; exact a1) v h3 k' 0 (by omega) (by omega) s' (knTo kn g v k')
    (fun W ga o n c _ => by rw [hq, u2, a2, a3, a4]; exact about_any _ _ _ _ _ _ _ _ (by simp) _)
    (fun W ga o n c hp => by
      rw [hq, u2, a2, a3, a4]
      rw [hq, u2, a5] at hp
      have r := prepare_any (knAt kn g v) 1 (g : Int) (v : Int) b (some ⟨ga, o, none⟩) n c W
      rw [hr] at r
      exact r)
    (fun W hW => by rw [hq, u2, a2]; exact hkeep W F B hW)
  rw [hq, u2, a2] at r
  rw [knTo_at] at r
  exact r
theorem go_1s (hu : AUp W F B s kn) (g v b : Nat) (l : List Nat) (hm : askMay 1 g v b l.length = true) (q : Part) (hq : q.l = frameBs 3 (askN 1 g v b l)) (hk : q.ok W) (hlc : q.len ≤ q.cap)
    (hr : prepN (knAt kn g v) b = (34, knAt kn g v)) :
    Calls Tryz.prog 29 #[.pointer (some ⟨B, 0, none⟩), .slice q.ad q.len q.cap] W (APost F B s kn (frameBs 4 (ansN 34 v (knAt kn g v).p (knAt kn g v).b (knAt kn g v).s.toNat (knAt kn g v).v)) W) := by
  obtain ⟨u1, u2, u3, a1, a2, a3, a4, a5⟩ := frame_facts 1 g v b l hm
  obtain ⟨h1, h2, h3, h4, h5⟩ := askMay_lim hm
  have hlen := frame_len 1 g v b l hm hq hk
  have r := ask_1s hu q.ad q.len q.cap q.l hk hlc hlen (by rw [hq]; exact u1) (by rw [hq, u2]; exact u3) (by rw [hq, u2]; exact a1) v h3 (knAt kn g v) 34 (by omega) (by omega)
    (fun W ga o n c _ => by rw [hq, u2, a2, a3, a4]; exact about_any _ _ _ _ _ _ _ _ (by simp) _)
    (fun W ga o n c hp => by
      rw [hq, u2, a2, a3, a4]
      rw [hq, u2, a5] at hp
      have r := prepare_any (knAt kn g v) 1 (g : Int) (v : Int) b (some ⟨ga, o, none⟩) n c W
      rw [hr] at r
      exact r)
    (by omega)
  rw [hq, u2, a2] at r
  skip
  exact r
theorem go_2 (hu : AUp W F B s kn) (g v b : Nat) (l : List Nat) (hm : askMay 2 g v b l.length = true) (q : Part) (hq : q.l = frameBs 3 (askN 2 g v b l)) (hk : q.ok W) (hlc : q.len ≤ q.cap) (hok : (knAt kn g v).ok)
    (k' : Kn) (hr : accN (knAt kn g v) b l = (0, k')) (s' : SSt) (hkeep : ∀ (W : World) (F : List Nat) (B : Nat), AUp W F B s kn → Calls Tryz.prog 63 #[.pointer (some ⟨B, 0, none⟩), .agg #[.int .i64 (g : Int), .int .i64 (v : Int)], knV k'] W fun x w' => x = .returned (.int .i64 0) ∧ AMoved F B s' (knTo kn g v k') W w') :
    Calls Tryz.prog 29 #[.pointer (some ⟨B, 0, none⟩), .slice q.ad q.len q.cap] W (APost F B s' (knTo kn g v k') (frameBs 4 (ansN 0 v k'.p k'.b k'.s.toNat k'.v)) W) := by
  obtain ⟨u1, u2, u3, a1, a2, a3, a4, a5⟩ := frame_facts 2 g v b l hm
  obtain ⟨h1, h2, h3, h4, h5⟩ := askMay_lim hm
  have hlen := frame_len 2 g v b l hm hq hk
  have r := ask_2 hu q.ad q.len q.cap q.l hk hlc hlen (by rw [hq]; exact u1) (by rw [hq, u2]; exact u3) (by rw [hq, u2]; exact a1) v h3 k' 0 (by omega) (by omega) s' (knTo kn g v k')
    (fun W ga o n c _ => by rw [hq, u2, a2, a3, a4]; exact about_any _ _ _ _ _ _ _ _ (by simp) _)
    (fun W ga o n c hp => by
      rw [hq, u2, a2, a3, a4]
      rw [hq, u2, a5] at hp
      have r := accept_any (knAt kn g v) hok 2 (g : Int) (v : Int) b (some ⟨ga, o, none⟩) n c l W hp
      rw [hr] at r
      exact r)
    (fun W hW => by rw [hq, u2, a2]; exact hkeep W F B hW)
  rw [hq, u2, a2] at r
  rw [knTo_at] at r
  exact r
theorem go_2s (hu : AUp W F B s kn) (g v b : Nat) (l : List Nat) (hm : askMay 2 g v b l.length = true) (q : Part) (hq : q.l = frameBs 3 (askN 2 g v b l)) (hk : q.ok W) (hlc : q.len ≤ q.cap) (hok : (knAt kn g v).ok)
    (hr : accN (knAt kn g v) b l = (34, knAt kn g v)) :
    Calls Tryz.prog 29 #[.pointer (some ⟨B, 0, none⟩), .slice q.ad q.len q.cap] W (APost F B s kn (frameBs 4 (ansN 34 v (knAt kn g v).p (knAt kn g v).b (knAt kn g v).s.toNat (knAt kn g v).v)) W) := by
  obtain ⟨u1, u2, u3, a1, a2, a3, a4, a5⟩ := frame_facts 2 g v b l hm
  obtain ⟨h1, h2, h3, h4, h5⟩ := askMay_lim hm
  have hlen := frame_len 2 g v b l hm hq hk
  have r := ask_2s hu q.ad q.len q.cap q.l hk hlc hlen (by rw [hq]; exact u1) (by rw [hq, u2]; exact u3) (by rw [hq, u2]; exact a1) v h3 (knAt kn g v) 34 (by omega) (by omega)
    (fun W ga o n c _ => by rw [hq, u2, a2, a3, a4]; exact about_any _ _ _ _ _ _ _ _ (by simp) _)
    (fun W ga o n c hp => by
      rw [hq, u2, a2, a3, a4]
      rw [hq, u2, a5] at hp
      have r := accept_any (knAt kn g v) hok 2 (g : Int) (v : Int) b (some ⟨ga, o, none⟩) n c l W hp
      rw [hr] at r
      exact r)
    (by omega)
  rw [hq, u2, a2] at r
  skip
  exact r
theorem IsLatest.unique {g a b : Nat} (ha : IsLatest kn g a) (hb : IsLatest kn g b) : a = b := by
  obtain ⟨a1, a2⟩ := ha
  obtain ⟨b1, b2⟩ := hb
  have h1 : b ≤ a := by
    rcases b1 with rfl | ⟨k, hk, hb⟩
    · omega
    · exact a2 b k hk hb
  have h2 : a ≤ b := by
    rcases a1 with rfl | ⟨k, hk, hb⟩
    · omega
    · exact b2 a k hk hb
  omega
set_option maxRecDepth 100000 in
set_option maxHeartbeats 4000000 in
theorem about_query {M n : Nat} {f : Lit → Option Value} (hk : KnMap w M n kn f) (hlM : M < w.heap.size) (hB : B < w.heap.size) (c2 : w.cell? ⟨B, 2, none⟩ = some (.map (some M))) (g u : Nat) (hg : g < 281474976710656) (hu : IsLatest kn g u) (v b : Int) (ad : Option Addr) (len cap : Nat) :
    Calls Tryz.prog 61 #[.pointer (some ⟨B, 0, none⟩), askV 4 (g : Int) v b ad len cap] w fun x w' => x = .returned (.agg #[.int .i64 (g : Int), .int .i64 (u : Int)]) ∧ Below w.heap.size w w' := by
  obtain ⟨W0, hW0⟩ : ∃ W0, (w.alloc (.cells #[.int .i64 4, .int .i64 (g : Int), .int .i64 v, .int .i64 b, .slice ad len cap] 30)).alloc (.cells #[.int .i64 0, .int .i64 0] TSp) = W0 := ⟨_, rfl⟩
  have b0 : Below w.heap.size w W0 := by rw [← hW0]; exact below2 _ _ _
  have bd : Below w.heap.size w W0.drew := b0.drew
  have X1 : Blk W0 w.heap.size #[.int .i64 4, .int .i64 (g : Int), .int .i64 v, .int .i64 b, .slice ad len cap] 30 := by
    rw [← hW0]; exact blk_below (N := w.heap.size + 1) (blk_new _ w _) ((Below.refl _ _).alloc (by simp) _) (by omega)
  have X2 : Blk W0 (w.heap.size + 1) #[.int .i64 0, .int .i64 0] TSp := by rw [← hW0]; exact last2 _ _ _ _
  have HL := latest_pic (w := W0.drew) (B := B) (hk.keep (bd.block M hlM)) ((bd.cell (p := ⟨B, 2, none⟩) hB).trans c2) g hg
  have HU : Hid (IsLatest kn g u) := hu
  have HX1 : Hid (Blk W0.drew w.heap.size #[.int .i64 4, .int .i64 (g : Int), .int .i64 v, .int .i64 b, .slice ad len cap] 30) := hid (X1.later (Below.refl _ _).drew)
  have HX2 : Hid (Blk W0.drew (w.heap.size + 1) #[.int .i64 0, .int .i64 0] TSp) := hid (X2.later (Below.refl _ _).drew)
  have HB : Hid (Below w.heap.size w W0.drew) := bd
  have S0 : Hid (W0.drew.cell? ⟨w.heap.size, 1, none⟩ = some (.int .i64 (g : Int))) := hid (HX1.out.cell 1)
  have x0 : W0.cell? ⟨w.heap.size, 0, none⟩ = some (.int .i64 4) := X1.cell 0
  clear hk c2 X1 X2 b0 bd hu
  unfold askV
  go_enter Tryz.func61, Tryz.ntmps61
  go_wp2_with fail
  clear hW0 x0
  go_region_held3 (fun W => W.cell? ⟨w.heap.size, 1, none⟩ = some (.int .i64 (g : Int)))
    (first | (with_reducible exact S0.out) | (with_reducible exact S1.out) | exact S2.out _ _)
    ((go_at_call 91; refine HL.mono ?_; rintro x w1 ⟨vv, rfl, hl, hvl, b1⟩; have e := IsLatest.unique hl.out HU.out; subst e; have Y1 : Hid (Blk w1 w.heap.size _ _) := hid (HX1.out.later b1); have Y2 : Hid (Blk w1 (w.heap.size + 1) #[.int .i64 0, .int .i64 0] TSp) := hid (HX2.out.later b1); have B1 : Hid (Below w.heap.size w w1) := hid (HB.out.trans (b1.mono HB.out.size)); have S1 : Hid (w1.cell? ⟨w.heap.size, 1, none⟩ = some (.int .i64 (g : Int))) := hid (Y1.out.cell 1); have S2 : Hid (∀ a b, ((w1.setCell ⟨w.heap.size + 1, 0, none⟩ a).setCell ⟨w.heap.size + 1, 1, none⟩ b).cell? ⟨w.heap.size, 1, none⟩ = some (.int .i64 (g : Int))) := hid (fun a b => (((Y1.out.other (by omega) 0 a).other (by omega) 1 b)).cell 1); have c0 := Y2.out.cell 0; have c1 := Y2.out.cell 1; have f0 := Y2.out.free 0; have f1 := Y2.out.free 1; simp only [List.getElem?_toArray, List.getElem?_cons_zero, List.getElem?_cons_succ] at c0 c1; clear b1))
  all_goals go_wp2_with fail
  all_goals refine bodyPost_ret (ret_spot Tryz.results61 _ _ (w.heap.size + 1) _ _ rfl ((Y2.out.set 0 _).set 1 _)) rfl ⟨rfl, ?_⟩
  all_goals exact (B1.out.setCell (p := ⟨w.heap.size + 1, 0, none⟩) (Nat.le_succ _) _).setCell (p := ⟨w.heap.size + 1, 1, none⟩) (Nat.le_succ _) _
theorem go_4 (hu : AUp W F B s kn) (g u : Nat) (l : List Nat) (hm : askMay 4 g 0 0 l.length = true) (q : Part) (hq : q.l = frameBs 3 (askN 4 g 0 0 l)) (hk : q.ok W) (hlc : q.len ≤ q.cap) (hul : IsLatest kn g u) (hu48 : u < 281474976710656) :
    Calls Tryz.prog 29 #[.pointer (some ⟨B, 0, none⟩), .slice q.ad q.len q.cap] W (APost F B s kn (frameBs 4 (ansN 0 u (knAt kn g u).p (knAt kn g u).b (knAt kn g u).s.toNat (knAt kn g u).v)) W) := by
  obtain ⟨u1, u2, u3, a1, a2, a3, a4, a5⟩ := frame_facts 4 g 0 0 l hm
  obtain ⟨h1, h2, h3, h4, h5⟩ := askMay_lim hm
  have hlen := frame_len 4 g 0 0 l hm hq hk
  have hup := hu
  obtain ⟨S, D, M, FD, G, X, Y, fx, fy, f, A, hap⟩ := hu
  have r := ask_4 hup q.ad q.len q.cap q.l hk hlc hlen (by rw [hq]; exact u1) (by rw [hq, u2]; exact u3) (by rw [hq, u2]; exact a1) u hu48 (knAt kn g u) 0 (by omega) (by omega) s kn
    (fun W2 ga o n c hb => by
      rw [hq, u2, a2, a3, a4]
      have h2' := hap.later hb
      exact about_query h2'.kmap (h2'.lt M h2'.mM) (h2'.lt B h2'.mB) (h2'.box.cell 2) g u h2 hul _ _ _ _ _)
    (fun W2 ga o n c hp => by
      rw [hq, u2, a2, a3, a4]
      exact query_any _ _ _ _ _ _ _ _ _)
    (fun W2 hW => by
      rw [hq, u2, a2]
      obtain ⟨S', D', M', FD', G', X', Y', fx', fy', f', A', hap'⟩ := hW
      exact (keep_same hap' g u h2 hu48 (knAt kn g u) rfl).mono fun x w' hx => ⟨hx.1, AUp.moved ⟨S', D', M', FD', G', X', Y', fx', fy', f', A', hap'⟩ hx.2⟩)
  rw [hq, u2, a2] at r
  exact r
end Go.Proofs.YtoihddlbdimmlaaGreat.Ac
