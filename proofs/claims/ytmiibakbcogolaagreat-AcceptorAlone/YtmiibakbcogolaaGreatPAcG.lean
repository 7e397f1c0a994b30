/- Stores that are put one place behind the other: what a Put at the tail makes of them. Ask of the bytes of an Ask that may be, where the store has power and room. knows of the statements of layer 8. The calls on no acceptor, and on one that nobody made; the walk of NodeNil. -/
import Derived.Test.YtmiibakbcogolaaGreatPOpen
import Derived.Test.YtmiibakbcogolaaGreatPAcA
import Derived.Test.YtmiibakbcogolaaGreatPAcA2
import Derived.Test.YtmiibakbcogolaaGreatPAcB
import Derived.Test.YtmiibakbcogolaaGreatPAcQ
import Derived.Test.YtmiibakbcogolaaGreatPAcN
namespace Go.Proofs.YtmiibakbcogolaaGreat.Ac
open Go.RowKit

/-- A store with power and no fuse, of which nothing is sealed or given up, and whose slots lie ahead of the tails. -/
structure Inv (s : SSt) : Prop where
  free : s.d.free
  clean : s.d.clean
  up : s.fallen = false
  logs : ∀ g, (s.log g).sealed = false ∧ (s.log g).trim = 0
  slots : ∀ g p, (s.log g).tail ≤ p → s.slots g p = none
theorem inv0 (n : Nat) : Inv (sst0 (newD n)) := by
  obtain ⟨f, c, _⟩ := new_free n
  exact ⟨f, c, rfl, fun _ => ⟨rfl, rfl⟩, fun _ _ _ => rfl⟩
theorem look_nat (s : SSt) (g : Nat) : s.look (g : Int) = s.log g := by
  unfold SSt.look
  rw [if_pos (by omega)]
  simp
theorem put_next {s : SSt} (h : Inv s) (g : Nat) (hg : g < 281474976710656) (ht : (s.log g).tail < 4096) (data : List Nat) (hd : data.length ≤ 65536) (hr : s.fin + partsN (13 + data.length) ≤ s.d.bs.length) :
    ∃ s', s.put (g : Int) (((s.look (g : Int)).tail : Nat) : Int) data false = (0, s') ∧ Inv s' ∧ s'.num = s.num + 1 ∧ s'.fin = s.fin + partsN (13 + data.length) ∧ s'.d.bs.length = s.d.bs.length ∧ (s'.log g).tail = (s.log g).tail + 1 ∧ ∀ g', g' ≠ g → s'.log g' = s.log g' := by
  rw [look_nat]
  obtain ⟨d, hrec, hf, hc, hl⟩ := record_free h.free h.clean ⟨1, g, (s.log g).tail, data⟩ hr
  have hsl := h.slots g (s.log g).tail (Nat.le_refl _)
  have hlg := h.logs g
  have e1 : s.put (g : Int) (((s.log g).tail : Nat) : Int) data false = s.record ⟨1, g, (s.log g).tail, data⟩ := by
    unfold SSt.put
    have i1 : isLogletN (g : Int) = true := by simp [isLogletN]; omega
    have i2 : isPlaceN (((s.log g).tail : Nat) : Int) = true := by simp [isPlaceN]; omega
    have i3 : s.down = false := by simp [SSt.down, h.up, h.free.on]
    rw [i1, i2, i3]
    simp only [Bool.and_self, if_true, Int.toNat_natCast, Bool.false_eq_true, if_false]
    rw [if_neg (by omega), if_neg (by omega), hsl]
    simp [hlg.1]
  have e2 : ({ s with d := d } : SSt).takeE ⟨1, g, (s.log g).tail, data⟩ = { s with d := d, slots := fun i q => if i = g ∧ q = (s.log g).tail then some data else s.slots i q, logs := fun j => if j = g then some ⟨(s.log g).tail + 1, (s.log g).trim, (s.log g).sealed⟩ else s.logs j, num := s.num + 1, fin := s.fin + partsN (13 + data.length) } := by
    have hlog : ∀ j, ({ s with d := d } : SSt).log j = s.log j := fun j => rfl
    simp only [SSt.takeE, SSt.doE, SSt.fill, if_true, hlog]
    rw [if_pos ⟨hsl, by omega⟩]
    simp [SSt.setLog, SSt.setSlot, Ent.parts]
  rw [e2] at hrec
  refine ⟨_, e1.trans hrec, ⟨hf, hc, h.up, fun j => ?_, fun j q hq => ?_⟩, rfl, rfl, hl, ?_, fun j hj => ?_⟩
  · unfold SSt.log
    simp only
    split
    · exact ⟨hlg.1, hlg.2⟩
    · exact h.logs j
  · by_cases hj : j = g
    · subst hj
      have hq' : (s.log j).tail + 1 ≤ q := by simpa [SSt.log] using hq
      simp only
      rw [if_neg (by omega)]
      exact h.slots j q (by omega)
    · have hq' : (s.log j).tail ≤ q := by simpa [SSt.log, hj] using hq
      simp only
      rw [if_neg (by simp [hj])]
      exact h.slots j q hq'
  · simp [SSt.log]
  · simp [SSt.log, hj]
end Go.Proofs.YtmiibakbcogolaaGreat.Ac
namespace Go.Proofs.YtmiibakbcogolaaGreat.Ac
open Go.RowKit Go.Shelf Crcm
variable {w w' W : World} {F : List Nat} {B : Nat} {s : SSt} {kn : Nat → Nat → Option Kn}

theorem frame_facts (k g v b : Nat) (l : List Nat) (hm : askMay k g v b l.length = true) : unpackN (frameBs 3 (askN k g v b l)) 3 19 = true ∧ bodyAt (frameBs 3 (askN k g v b l)) 0 = askN k g v b l ∧ askIn (askN k g v b l) = true ∧ askK (askN k g v b l) = k ∧ askG (askN k g v b l) = g ∧ askW (askN k g v b l) = v ∧ askB (askN k g v b l) = b ∧ (askN k g v b l).drop 19 = l := by
  obtain ⟨h1, h2, h3, h4, h5⟩ := askMay_lim hm
  have hl := askN_length k g v b l
  obtain ⟨u1, u2⟩ := unpack_frame 3 19 (askN k g v b l) (by omega) (by omega) (by omega)
  obtain ⟨a1, a2, a3, a4, a5⟩ := askBack k g v b l (by omega) h2 h3 h4
  refine ⟨u1, u2, ?_, a1, a2, a3, a4, a5⟩
  unfold askIn
  rw [a1, a2, a3, a4, hl, show 19 + l.length - 19 = l.length by omega]
  exact hm
theorem frame_len (k g v b : Nat) (l : List Nat) (hm : askMay k g v b l.length = true) {q : Part} {w : World} (hq : q.l = frameBs 3 (askN k g v b l)) (hk : q.ok w) : q.len ≤ 1000000000000000 := by
  obtain ⟨h1, h2, h3, h4, h5⟩ := askMay_lim hm
  have h0 : q.l.length = q.len := hk.1
  rw [hq, frameBs_length, askN_length] at h0
  omega
theorem few_of {d : DSt} (h : d.clean) : ∀ x ∈ d.bs, x.vs.length ≤ 1000000 := fun x hx => by rw [h x hx]; simp
open Classical in
/-- What is known behind a change, or where there is none. -/
noncomputable def knTo (kn : Nat → Nat → Option Kn) (g v : Nat) (k : Kn) : Nat → Nat → Option Kn := if knAt kn g v = k then kn else knSet kn g v k
theorem knTo_at (kn : Nat → Nat → Option Kn) (g v : Nat) (k : Kn) : knAt (knTo kn g v k) g v = k := by
  unfold knTo
  split
  · assumption
  · exact knSet_at _ _ _ _
theorem knTo_same {g v : Nat} {k : Kn} (h : knAt kn g v = k) : knTo kn g v k = kn := by unfold knTo; rw [if_pos h]
theorem knTo_other (kn : Nat → Nat → Option Kn) (g v : Nat) (k : Kn) (g' v' : Nat) (h : ¬ (g' = g ∧ v' = v)) : knTo kn g v k g' v' = kn g' v' := by
  unfold knTo
  split
  · rfl
  · simp [knSet, h]
/-- keep where the store has room. -/
theorem keep_free (h : Inv s) (g v : Nat) (hg : g < 281474976710656) (hv : v < 281474976710656) (k : Kn) (hk : k.ok) (ht : (s.log g).tail < 4096) (hr : s.fin + 20 ≤ s.d.bs.length ∨ s.fin + partsN (32 + k.v.length) ≤ s.d.bs.length) :
    ∃ s', Inv s' ∧ s'.fin ≤ s.fin + partsN (32 + k.v.length) ∧ s'.d.bs.length = s.d.bs.length ∧ (s'.log g).tail ≤ (s.log g).tail + 1 ∧ (∀ g', g' ≠ g → s'.log g' = s.log g') ∧ ∀ (W : World) (F : List Nat) (B : Nat), AUp W F B s kn → Calls Tryz.prog 63 #[.pointer (some ⟨B, 0, none⟩), .agg #[.int .i64 (g : Int), .int .i64 (v : Int)], knV k] W fun x w' => x = .returned (.int .i64 0) ∧ AMoved F B s' (knTo kn g v k) W w' := by
  by_cases he : knAt kn g v = k
  · refine ⟨s, h, Nat.le_add_right _ _, rfl, Nat.le_succ _, fun _ _ => rfl, fun W F B hu => ?_⟩
    rw [knTo_same he]
    obtain ⟨S, D, M, FD, G, X, Y, fx, fy, f, A, hap⟩ := hu
    exact (keep_same hap g v hg hv k he).mono fun x w' hx => ⟨hx.1, AUp.moved ⟨S, D, M, FD, G, X, Y, fx, fy, f, A, hap⟩ hx.2⟩
  · have hl := textN_length v k.p k.b k.s.toNat k.v
    have hkl := hk.len
    have hpn : 13 + (textN v k.p k.b k.s.toNat k.v).length = 32 + k.v.length := by omega
    have h20 : partsN (32 + k.v.length) ≤ 20 := by unfold partsN; omega
    obtain ⟨s', p1, p2, p3, p4, p5, p6, p7⟩ := put_next h g hg ht (textN v k.p k.b k.s.toNat k.v) (by omega) (by rw [hpn]; omega)
    rw [hpn] at p4
    refine ⟨s', p2, Nat.le_of_eq p4, p5, Nat.le_of_eq p6, p7, fun W F B hu => ?_⟩
    obtain ⟨S, D, M, FD, G, X, Y, fx, fy, f, A, hap⟩ := hu
    refine (keep_diff hap g v hg hv k hk he (few_of h.clean) 0 s' p1 (by omega) (fun _ => by omega)).mono fun x w' hx => ?_
    have e : knIf kn g v k 0 = knTo kn g v k := by unfold knIf knTo; rw [if_pos rfl, if_neg he]
    rw [e] at hx
    exact hx
theorem go_1 (hu : AUp W F B s kn) (g v b : Nat) (l : List Nat) (hm : askMay 1 g v b l.length = true) (q : Part) (hq : q.l = frameBs 3 (askN 1 g v b l)) (hk : q.ok W) (hlc : q.len ≤ q.cap)
    (k' : Kn) (hr : prepN (knAt kn g v) b = (0, k')) (s' : SSt) (hkeep : ∀ (W : World) (F : List Nat) (B : Nat), AUp W F B s kn → Calls Tryz.prog 63 #[.pointer (some ⟨B, 0, none⟩), .agg #[.int .i64 (g : Int), .int .i64 (v : Int)], knV k'] W fun x w' => x = .returned (.int .i64 0) ∧ AMoved F B s' (knTo kn g v k') W w') :
    Calls Tryz.prog 29 #[.pointer (some ⟨B, 0, none⟩), .slice q.ad q.len q.cap] W (APost F B s' (knTo kn g v k') (frameBs 4 (ansN 0 v k'.p k'.b k'.s.toNat k'.v)) W) := by
  obtain ⟨u1, u2, u3, a1, a2, a3, a4, a5⟩ := frame_facts 1 g v b l hm
  obtain ⟨h1, h2, h3, h4, h5⟩ := askMay_lim hm
  have hlen := frame_len 1 g v b l hm hq hk
  have r := ask_1 hu q.ad q.len q.cap q.l hk hlc hlen (by rw [hq]; exact u1) (by rw [hq, u2]; exact u3) (by rw [hq, u2]; exact a1) v h3 k' 0 (by omega) (by omega) s' (knTo kn g v k')
    (fun W ga o n c _ => by rw [hq, u2, a2, a3, a4]; exact about_any _ _ _ _ _ _ _ _ (by simp) _)
    (fun W ga o n c hp => by
      rw [hq, u2, a2, a3, a4]
      rw [hq, u2, a5] at hp
      have r := prepare_any (knAt kn g v) 1 (g : Int) (v : Int) b (some ⟨ga, o, none⟩) n c W
      rw [hr] at r
      exact r)
    (fun W hW => by rw [hq, u2, a2]; exact hkeep W F B hW)
  rw [hq, u2, a2] at r
  rw [knTo_at] at r
  exact r
theorem go_1s (hu : AUp W F B s kn) (g v b : Nat) (l : List Nat) (hm : askMay 1 g v b l.length = true) (q : Part) (hq : q.l = frameBs 3 (askN 1 g v b l)) (hk : q.ok W) (hlc : q.len ≤ q.cap)
    (hr : prepN (knAt kn g v) b = (34, knAt kn g v)) :
    Calls Tryz.prog 29 #[.pointer (some ⟨B, 0, none⟩), .slice q.ad q.len q.cap] W (APost F B s kn (frameBs 4 (ansN 34 v (knAt kn g v).p (knAt kn g v).b (knAt kn g v).s.toNat (knAt kn g v).v)) W) := by
  obtain ⟨u1, u2, u3, a1, a2, a3, a4, a5⟩ := frame_facts 1 g v b l hm
  obtain ⟨h1, h2, h3, h4, h5⟩ := askMay_lim hm
  have hlen := frame_len 1 g v b l hm hq hk
  have r := ask_1s hu q.ad q.len q.cap q.l hk hlc hlen (by rw [hq]; exact u1) (by rw [hq, u2]; exact u3) (by rw [hq, u2]; exact a1) v h3 (knAt kn g v) 34 (by omega) (by omega)
    (fun W ga o n c _ => by rw [hq, u2, a2, a3, a4]; exact about_any _ _ _ _ _ _ _ _ (by simp) _)
    (fun W ga o n c hp => by
      rw [hq, u2, a2, a3, a4]
      rw [hq, u2, a5] at hp
      have r := prepare_any (knAt kn g v) 1 (g : Int) (v : Int) b (some ⟨ga, o, none⟩) n c W
      rw [hr] at r
      exact r)
    (by omega)
  rw [hq, u2, a2] at r
  skip
  exact r
theorem go_2 (hu : AUp W F B s kn) (g v b : Nat) (l : List Nat) (hm : askMay 2 g v b l.length = true) (q : Part) (hq : q.l = frameBs 3 (askN 2 g v b l)) (hk : q.ok W) (hlc : q.len ≤ q.cap) (hok : (knAt kn g v).ok)
    (k' : Kn) (hr : accN (knAt kn g v) b l = (0, k')) (s' : SSt) (hkeep : ∀ (W : World) (F : List Nat) (B : Nat), AUp W F B s kn → Calls Tryz.prog 63 #[.pointer (some ⟨B, 0, none⟩), .agg #[.int .i64 (g : Int), .int .i64 (v : Int)], knV k'] W fun x w' => x = .returned (.int .i64 0) ∧ AMoved F B s' (knTo kn g v k') W w') :
    Calls Tryz.prog 29 #[.pointer (some ⟨B, 0, none⟩), .slice q.ad q.len q.cap] W (APost F B s' (knTo kn g v k') (frameBs 4 (ansN 0 v k'.p k'.b k'.s.toNat k'.v)) W) := by
  obtain ⟨u1, u2, u3, a1, a2, a3, a4, a5⟩ := frame_facts 2 g v b l hm
  obtain ⟨h1, h2, h3, h4, h5⟩ := askMay_lim hm
  have hlen := frame_len 2 g v b l hm hq hk
  have r := ask_2 hu q.ad q.len q.cap q.l hk hlc hlen (by rw [hq]; exact u1) (by rw [hq, u2]; exact u3) (by rw [hq, u2]; exact a1) v h3 k' 0 (by omega) (by omega) s' (knTo kn g v k')
    (fun W ga o n c _ => by rw [hq, u2, a2, a3, a4]; exact about_any _ _ _ _ _ _ _ _ (by simp) _)
    (fun W ga o n c hp => by
      rw [hq, u2, a2, a3, a4]
      rw [hq, u2, a5] at hp
      have r := accept_any (knAt kn g v) hok 2 (g : Int) (v : Int) b (some ⟨ga, o, none⟩) n c l W hp
      rw [hr] at r
      exact r)
    (fun W hW => by rw [hq, u2, a2]; exact hkeep W F B hW)
  rw [hq, u2, a2] at r
  rw [knTo_at] at r
  exact r
theorem go_2s (hu : AUp W F B s kn) (g v b : Nat) (l : List Nat) (hm : askMay 2 g v b l.length = true) (q : Part) (hq : q.l = frameBs 3 (askN 2 g v b l)) (hk : q.ok W) (hlc : q.len ≤ q.cap) (hok : (knAt kn g v).ok)
    (hr : accN (knAt kn g v) b l = (34, knAt kn g v)) :
    Calls Tryz.prog 29 #[.pointer (some ⟨B, 0, none⟩), .slice q.ad q.len q.cap] W (APost F B s kn (frameBs 4 (ansN 34 v (knAt kn g v).p (knAt kn g v).b (knAt kn g v).s.toNat (knAt kn g v).v)) W) := by
  obtain ⟨u1, u2, u3, a1, a2, a3, a4, a5⟩ := frame_facts 2 g v b l hm
  obtain ⟨h1, h2, h3, h4, h5⟩ := askMay_lim hm
  have hlen := frame_len 2 g v b l hm hq hk
  have r := ask_2s hu q.ad q.len q.cap q.l hk hlc hlen (by rw [hq]; exact u1) (by rw [hq, u2]; exact u3) (by rw [hq, u2]; exact a1) v h3 (knAt kn g v) 34 (by omega) (by omega)
    (fun W ga o n c _ => by rw [hq, u2, a2, a3, a4]; exact about_any _ _ _ _ _ _ _ _ (by simp) _)
    (fun W ga o n c hp => by
      rw [hq, u2, a2, a3, a4]
      rw [hq, u2, a5] at hp
      have r := accept_any (knAt kn g v) hok 2 (g : Int) (v : Int) b (some ⟨ga, o, none⟩) n c l W hp
      rw [hr] at r
      exact r)
    (by omega)
  rw [hq, u2, a2] at r
  skip
  exact r
theorem IsLatest.unique {g a b : Nat} (ha : IsLatest kn g a) (hb : IsLatest kn g b) : a = b := by
  obtain ⟨a1, a2⟩ := ha
  obtain ⟨b1, b2⟩ := hb
  have h1 : b ≤ a := by
    rcases b1 with rfl | ⟨k, hk, hb⟩
    · omega
    · exact a2 b k hk hb
  have h2 : a ≤ b := by
    rcases a1 with rfl | ⟨k, hk, hb⟩
    · omega
    · exact b2 a k hk hb
  omega
set_option maxRecDepth 100000 in
set_option maxHeartbeats 4000000 in
theorem about_query {M n : Nat} {f : Lit → Option Value} (hk : KnMap w M n kn f) (hlM : M < w.heap.size) (hB : B < w.heap.size) (c2 : w.cell? ⟨B, 2, none⟩ = some (.map (some M))) (g u : Nat) (hg : g < 281474976710656) (hu : IsLatest kn g u) (v b : Int) (ad : Option Addr) (len cap : Nat) :
    Calls Tryz.prog 61 #[.pointer (some ⟨B, 0, none⟩), askV 4 (g : Int) v b ad len cap] w fun x w' => x = .returned (.agg #[.int .i64 (g : Int), .int .i64 (u : Int)]) ∧ Below w.heap.size w w' := by
  obtain ⟨W0, hW0⟩ : ∃ W0, (w.alloc (.cells #[.int .i64 4, .int .i64 (g : Int), .int .i64 v, .int .i64 b, .slice ad len cap] 30)).alloc (.cells #[.int .i64 0, .int .i64 0] TSp) = W0 := ⟨_, rfl⟩
  have b0 : Below w.heap.size w W0 := by rw [← hW0]; exact below2 _ _ _
  have bd : Below w.heap.size w W0.drew := b0.drew
  have X1 : Blk W0 w.heap.size #[.int .i64 4, .int .i64 (g : Int), .int .i64 v, .int .i64 b, .slice ad len cap] 30 := by
    rw [← hW0]; exact blk_below (N := w.heap.size + 1) (blk_new _ w _) ((Below.refl _ _).alloc (by simp) _) (by omega)
  have X2 : Blk W0 (w.heap.size + 1) #[.int .i64 0, .int .i64 0] TSp := by rw [← hW0]; exact last2 _ _ _ _
  have HL := latest_pic (w := W0.drew) (B := B) (hk.keep (bd.block M hlM)) ((bd.cell (p := ⟨B, 2, none⟩) hB).trans c2) g hg
  have HU : Hid (IsLatest kn g u) := hu
  have HX1 : Hid (Blk W0.drew w.heap.size #[.int .i64 4, .int .i64 (g : Int), .int .i64 v, .int .i64 b, .slice ad len cap] 30) := hid (X1.later (Below.refl _ _).drew)
  have HX2 : Hid (Blk W0.drew (w.heap.size + 1) #[.int .i64 0, .int .i64 0] TSp) := hid (X2.later (Below.refl _ _).drew)
  have HB : Hid (Below w.heap.size w W0.drew) := bd
  have S0 : Hid (W0.drew.cell? ⟨w.heap.size, 1, none⟩ = some (.int .i64 (g : Int))) := hid (HX1.out.cell 1)
  have x0 : W0.cell? ⟨w.heap.size, 0, none⟩ = some (.int .i64 4) := X1.cell 0
  clear hk c2 X1 X2 b0 bd hu
  unfold askV
  go_enter Tryz.func61, Tryz.ntmps61
  go_wp2_with fail
  clear hW0 x0
  go_region_held3 (fun W => W.cell? ⟨w.heap.size, 1, none⟩ = some (.int .i64 (g : Int)))
    (first | (with_reducible exact S0.out) | (with_reducible exact S1.out) | exact S2.out _ _)
    ((go_at_call 91; refine HL.mono ?_; rintro x w1 ⟨vv, rfl, hl, hvl, b1⟩; have e := IsLatest.unique hl.out HU.out; subst e; have Y1 : Hid (Blk w1 w.heap.size _ _) := hid (HX1.out.later b1); have Y2 : Hid (Blk w1 (w.heap.size + 1) #[.int .i64 0, .int .i64 0] TSp) := hid (HX2.out.later b1); have B1 : Hid (Below w.heap.size w w1) := hid (HB.out.trans (b1.mono HB.out.size)); have S1 : Hid (w1.cell? ⟨w.heap.size, 1, none⟩ = some (.int .i64 (g : Int))) := hid (Y1.out.cell 1); have S2 : Hid (∀ a b, ((w1.setCell ⟨w.heap.size + 1, 0, none⟩ a).setCell ⟨w.heap.size + 1, 1, none⟩ b).cell? ⟨w.heap.size, 1, none⟩ = some (.int .i64 (g : Int))) := hid (fun a b => (((Y1.out.other (by omega) 0 a).other (by omega) 1 b)).cell 1); have c0 := Y2.out.cell 0; have c1 := Y2.out.cell 1; have f0 := Y2.out.free 0; have f1 := Y2.out.free 1; simp only [List.getElem?_toArray, List.getElem?_cons_zero, List.getElem?_cons_succ] at c0 c1; clear b1))
  all_goals go_wp2_with fail
  all_goals refine bodyPost_ret (ret_spot Tryz.results61 _ _ (w.heap.size + 1) _ _ rfl ((Y2.out.set 0 _).set 1 _)) rfl ⟨rfl, ?_⟩
  all_goals exact (B1.out.setCell (p := ⟨w.heap.size + 1, 0, none⟩) (Nat.le_succ _) _).setCell (p := ⟨w.heap.size + 1, 1, none⟩) (Nat.le_succ _) _
theorem go_4 (hu : AUp W F B s kn) (g u : Nat) (l : List Nat) (hm : askMay 4 g 0 0 l.length = true) (q : Part) (hq : q.l = frameBs 3 (askN 4 g 0 0 l)) (hk : q.ok W) (hlc : q.len ≤ q.cap) (hul : IsLatest kn g u) (hu48 : u < 281474976710656) :
    Calls Tryz.prog 29 #[.pointer (some ⟨B, 0, none⟩), .slice q.ad q.len q.cap] W (APost F B s kn (frameBs 4 (ansN 0 u (knAt kn g u).p (knAt kn g u).b (knAt kn g u).s.toNat (knAt kn g u).v)) W) := by
  obtain ⟨u1, u2, u3, a1, a2, a3, a4, a5⟩ := frame_facts 4 g 0 0 l hm
  obtain ⟨h1, h2, h3, h4, h5⟩ := askMay_lim hm
  have hlen := frame_len 4 g 0 0 l hm hq hk
  have hup := hu
  obtain ⟨S, D, M, FD, G, X, Y, fx, fy, f, A, hap⟩ := hu
  have r := ask_4 hup q.ad q.len q.cap q.l hk hlc hlen (by rw [hq]; exact u1) (by rw [hq, u2]; exact u3) (by rw [hq, u2]; exact a1) u hu48 (knAt kn g u) 0 (by omega) (by omega) s kn
    (fun W2 ga o n c hb => by
      rw [hq, u2, a2, a3, a4]
      have h2' := hap.later hb
      exact about_query h2'.kmap (h2'.lt M h2'.mM) (h2'.lt B h2'.mB) (h2'.box.cell 2) g u h2 hul _ _ _ _ _)
    (fun W2 ga o n c hp => by
      rw [hq, u2, a2, a3, a4]
      exact query_any _ _ _ _ _ _ _ _ _)
    (fun W2 hW => by
      rw [hq, u2, a2]
      obtain ⟨S', D', M', FD', G', X', Y', fx', fy', f', A', hap'⟩ := hW
      exact (keep_same hap' g u h2 hu48 (knAt kn g u) rfl).mono fun x w' hx => ⟨hx.1, AUp.moved ⟨S', D', M', FD', G', X', Y', fx', fy', f', A', hap'⟩ hx.2⟩)
  rw [hq, u2, a2] at r
  exact r
end Go.Proofs.YtmiibakbcogolaaGreat.Ac
namespace Go.Proofs.YtmiibakbcogolaaGreat.Ac
open Go.RowKit Go.Shelf Crcm

def litW (W : World) (v : Value) : World := (W.alloc (.cells #[v] 5)).freeze ⟨W.heap.size, 1, none⟩ 1
theorem lit_conv (W : World) (v : Value) : (convert 22 22 (.slice (some ⟨W.heap.size, 0, none⟩) 1 1)).run Tryz.prog (W.alloc (.cells #[v] 5)) = .ok (.slice (some ⟨W.heap.size, 0, none⟩) 1 1) (litW W v) := by
  have h1 : (W.alloc (.cells #[v] 5)).shape? W.heap.size = some (5, 1) := by
    unfold World.shape?
    rw [heap_alloc_last]
    rfl
  simp [convert, markStringish, run_underlying Tryz.underlying22, run_underlying Tryz.underlying5, Result.andThen, h1, litW]
theorem litW_heap (W : World) (v : Value) : (litW W v).heap.size = W.heap.size + 1 ∧ (∃ fr, (litW W v).heap[W.heap.size]? = some (.cells #[v] 5 fr)) ∧ Below W.heap.size W (litW W v) := by
  have hs : (litW W v).heap = (W.alloc (.cells #[v] 5)).heap.modify W.heap.size (fun
      | .cells c elem (lo, hi) => .cells c elem (if lo == hi then (1, 1 + 1) else (min lo 1, max hi (1 + 1)))
      | o => o) := rfl
  have h1 : (litW W v).heap.size = W.heap.size + 1 := by rw [hs, Array.size_modify]; simp
  refine ⟨h1, ⟨(1, 2), ?_⟩, rfl, rfl, rfl, by omega, fun k hk => ?_⟩
  · rw [hs, Array.getElem?_modify, if_pos rfl, heap_alloc_last]
    rfl
  · rw [hs, Array.getElem?_modify, if_neg (by omega)]
    exact Below.heap_alloc W _ k hk
theorem lit_ok (W : World) (x : Nat) (z : Int) (hz : z = x) (hx : x < 256) : Part.ok (litW W (.int .u8 z)) ⟨some ⟨W.heap.size, 0, none⟩, 1, 1, [x]⟩ := by
  subst hz
  obtain ⟨h1, ⟨fr, h2⟩, -⟩ := litW_heap W (.int .u8 (x : Int))
  refine ⟨rfl, fun e => (by cases e), fun y hy => by simp at hy; omega, Or.inr ⟨W.heap.size, 0, rfl, by omega, fun i hi => ?_⟩⟩
  have hi0 : i = 0 := by simpa using hi
  subst hi0
  exact cell_of_row _ _ _ _ _ _ h2
/-- An acceptor made by a call that began in w0, and boxes of Answers that lie beside it. -/
structure K8 (w0 w : World) (B : Nat) (s : SSt) (kn : Nat → Nat → Option Kn) (X : List (Nat × Array Value)) : Prop where
  up : ∃ F, AUp w F B s kn ∧ (∀ g ∈ F, w0.heap.size ≤ g) ∧ ∀ x ∈ X, x.1 ∉ F
  box : ∀ x ∈ X, Blk w x.1 x.2 36
  below : Below w0.heap.size w0 w
variable {w0 w w' : World} {B : Nat} {s s' : SSt} {kn kn' : Nat → Nat → Option Kn} {X : List (Nat × Array Value)}
theorem K8.later (h : K8 w0 w B s kn X) (hb : Below w.heap.size w w') : K8 w0 w' B s kn X := by
  obtain ⟨F, h1, h2, h3⟩ := h.up
  exact ⟨⟨F, h1.later hb, h2, h3⟩, fun x hx => (h.box x hx).later hb, h.below.trans (hb.mono h.below.size)⟩
theorem K8.alloc (h : K8 w0 w B s kn X) (cs : Array Value) : K8 w0 (w.alloc (.cells cs 36)) B s kn ((w.heap.size, cs) :: X) := by
  have hb : Below w.heap.size w (w.alloc (.cells cs 36)) := (Below.refl _ _).alloc (Nat.le_refl _) _
  have h' := h.later hb
  obtain ⟨F, h1, h2, h3⟩ := h.up
  have hlt := h1.lt
  refine ⟨⟨F, h1.later hb, h2, fun x hx => ?_⟩, fun x hx => ?_, h'.below⟩
  · simp only [List.mem_cons] at hx
    rcases hx with rfl | hx
    · exact fun hm => absurd (hlt _ hm) (by simp)
    · exact h3 x hx
  · simp only [List.mem_cons] at hx
    rcases hx with rfl | hx
    · exact heap_alloc_last w _
    · exact h'.box x hx
theorem K8.asked {v : Value} {e ve pe be : Nat} {se : Bool} {vl : List Nat} (h : K8 w0 w B s kn X) (hc : ∀ F, AUp w F B s kn → Calls Tryz.prog 33 #[.pointer (some ⟨B, 0, none⟩), v] w (AskedPost F B s' kn' e ve pe be se vl w)) :
    Calls Tryz.prog 33 #[.pointer (some ⟨B, 0, none⟩), v] w fun x w' => ∃ r : Part, x = .returned (.tuple #[.agg #[.int .i64 (e : Int), .int .i64 (ve : Int), .int .i64 (pe : Int), .int .i64 (be : Int), .bool se, .slice r.ad r.len r.cap], .bool true]) ∧ Hid (r.l = vl ∧ r.ok w') ∧ Hid (K8 w0 w' B s' kn' X) := by
  obtain ⟨F, h1, h2, h3⟩ := h.up
  refine (hc F h1).mono ?_
  rintro x w' ⟨r, rfl, e1, m1, -⟩
  obtain ⟨⟨F', n1, hF'⟩, hch⟩ := m1.out
  refine ⟨r, rfl, e1, hid ⟨⟨F', n1, fun g hg => ?_, fun x hx hm => ?_⟩, fun x hx => (h.box x hx).chg hch (h3 x hx), ?_⟩⟩
  · exact (hF' g hg).elim (h2 g) (fun hh => Nat.le_trans h.below.size hh)
  · exact (hF' _ hm).elim (h3 x hx) (fun hh => absurd (h.box x hx).lt (by omega))
  · exact h.below.trans (hch.below h2 h.below.size)
/-- What is known step by step. -/
def kq1 : Kn := ⟨5, 0, false, []⟩
def kq2 : Kn := ⟨5, 5, false, [97]⟩
theorem kq1_ok : kq1.ok := ⟨by decide, by decide, by decide, by simp [kq1]⟩
theorem kq2_ok : kq2.ok := ⟨by decide, by decide, by decide, by simp [kq2]⟩
theorem kn00_at : knAt kn00 0 1 = kn0 := rfl
theorem knTo_some (kn : Nat → Nat → Option Kn) (g v : Nat) (k : Kn) (h : k ≠ kn0) : knTo kn g v k g v = some k := by
  have h1 := knTo_at kn g v k
  unfold knAt at h1
  cases hh : knTo kn g v k g v with
  | none => rw [hh] at h1; exact absurd h1.symm h
  | some x => rw [hh] at h1; exact congrArg some h1
theorem latest2 : IsLatest (knTo (knTo kn00 0 1 kq1) 0 1 kq2) 0 1 := by
  refine ⟨Or.inr ⟨kq2, knTo_some _ _ _ _ (by simp [kq2, kn0]), by decide⟩, fun v' k hk hb => ?_⟩
  by_cases hv : v' = 1
  · omega
  · rw [knTo_other _ _ _ _ _ _ (by omega), knTo_other _ _ _ _ _ _ (by omega)] at hk
    cases hk
theorem lit_conv1 (W : World) (cs : Array Value) : (convert 22 22 (.slice (some ⟨W.heap.size + 1, 0, none⟩) 1 1)).run Tryz.prog ((W.alloc (.cells cs 36)).alloc (.cells #[.int .u8 97] 5)) = .ok (.slice (some ⟨W.heap.size + 1, 0, none⟩) 1 1) (litW (W.alloc (.cells cs 36)) (.int .u8 97)) := by
  have h := lit_conv (W.alloc (.cells cs 36)) (.int .u8 97)
  rw [show (W.alloc (.cells cs 36)).heap.size = W.heap.size + 1 by simp] at h
  exact h
theorem lit_ok1 (W : World) (cs : Array Value) : Part.ok (litW (W.alloc (.cells cs 36)) (.int .u8 97)) ⟨some ⟨W.heap.size + 1, 0, none⟩, 1, 1, [97]⟩ := by
  have h := lit_ok (W.alloc (.cells cs 36)) 97 97 rfl (by omega)
  rw [show (W.alloc (.cells cs 36)).heap.size = W.heap.size + 1 by simp] at h
  exact h
theorem nilPart (w : World) : Part.ok w ⟨none, 0, 0, []⟩ := ⟨rfl, fun _ => ⟨rfl, rfl⟩, fun _ h => (by cases h), Or.inl rfl⟩
set_option maxRecDepth 100000 in
set_option maxHeartbeats 8000000 in
theorem knows8 (w : World) : Calls Tryz.prog 23 #[] w fun e w' => e = .returned (.bool true) ∧ Below w.heap.size w w' := by
  have n20 : (newD 20).bs.length = 20 := List.length_replicate
  obtain ⟨s1, i1, f1, l1, t1, -, K1⟩ := keep_free (kn := kn00) (inv0 20) 0 1 (by omega) (by omega) kq1 kq1_ok (by decide) (Or.inr (by show 0 + partsN 32 ≤ (newD 20).bs.length; rw [n20]; decide))
  have f1' : s1.fin ≤ 1 := f1
  have t1' : (s1.log 0).tail ≤ 1 := t1
  have l1' : s1.d.bs.length = 20 := l1.trans n20
  obtain ⟨s2, i2, f2, l2, t2, -, K2⟩ := keep_free (kn := knTo kn00 0 1 kq1) i1 0 1 (by omega) (by omega) kq2 kq2_ok (by omega) (Or.inr (by show s1.fin + partsN 33 ≤ s1.d.bs.length; rw [l1']; have : partsN 33 = 1 := rfl; omega))
  have HNEW := new_up 20 w (by omega) (by omega)
  have HN : Hid (∀ x w1, NewPost (sst0 (newD (20 : Int).toNat)) w x w1 → ∃ B, x = .returned (.tuple #[.pointer (some ⟨B, 0, none⟩), .int .i64 0]) ∧ Hid (K8 w w1 B (sst0 (newD 20)) kn00 [])) := hid (fun x w1 hx => by
    obtain ⟨F, B, rfl, hu, hF, hb⟩ := hx
    exact ⟨B, rfl, hid ⟨⟨F, hu, hF, fun x hx => (by cases hx)⟩, fun x hx => (by cases hx), hb⟩⟩)
  have HA1 : Hid (∀ (W : World) (B : Nat) (X : List (Nat × Array Value)), K8 w W B (sst0 (newD 20)) kn00 X → Calls Tryz.prog 33 #[.pointer (some ⟨B, 0, none⟩), .agg #[.int .i64 1, .int .i64 0, .int .i64 1, .int .i64 5, .slice none 0 0]] W fun x w' => ∃ r : Part, x = .returned (.tuple #[.agg #[.int .i64 0, .int .i64 1, .int .i64 5, .int .i64 0, .bool false, .slice r.ad r.len r.cap], .bool true]) ∧ Hid (r.l = [] ∧ r.ok w') ∧ Hid (K8 w w' B s1 (knTo kn00 0 1 kq1) X)) := hid (fun W B X hK => hK.asked (e := 0) (ve := 1) (pe := 5) (be := 0) (se := false) (fun F hN => by
    refine asked_ok hN 1 0 1 5 none 0 0 [] (by decide) (nilPart W) s1 (knTo kn00 0 1 kq1) 0 1 5 0 false [] (by omega) (by omega) (by omega) (by omega) (by simp) (fun W q hu hq hk hlc => ?_)
    exact go_1 hu 0 1 5 [] (by decide) q hq hk hlc kq1 rfl s1 K1))
  have HA2 : Hid (∀ (W : World) (B g : Nat) (X : List (Nat × Array Value)), K8 w W B s1 (knTo kn00 0 1 kq1) X → Part.ok W ⟨some ⟨g, 0, none⟩, 1, 1, [97]⟩ → Calls Tryz.prog 33 #[.pointer (some ⟨B, 0, none⟩), .agg #[.int .i64 2, .int .i64 0, .int .i64 1, .int .i64 4, .slice (some ⟨g, 0, none⟩) 1 1]] W fun x w' => ∃ r : Part, x = .returned (.tuple #[.agg #[.int .i64 34, .int .i64 1, .int .i64 5, .int .i64 0, .bool false, .slice r.ad r.len r.cap], .bool true]) ∧ Hid (r.l = [] ∧ r.ok w') ∧ Hid (K8 w w' B s1 (knTo kn00 0 1 kq1) X)) := hid (fun W B g X hK hp => hK.asked (e := 34) (ve := 1) (pe := 5) (be := 0) (se := false) (fun F hN => by
    refine asked_ok hN 2 0 1 4 (some ⟨g, 0, none⟩) 1 1 [97] (by decide) hp s1 (knTo kn00 0 1 kq1) 34 1 5 0 false [] (by omega) (by omega) (by omega) (by omega) (by simp) (fun W q hu hq hk hlc => ?_)
    have ha : knAt (knTo kn00 0 1 kq1) 0 1 = kq1 := knTo_at _ _ _ _
    have r := go_2s hu 0 1 4 [97] (by decide) q hq hk hlc (by rw [ha]; exact kq1_ok) (by rw [ha]; rfl)
    rw [ha] at r
    exact r))
  have HA3 : Hid (∀ (W : World) (B g : Nat) (X : List (Nat × Array Value)), K8 w W B s1 (knTo kn00 0 1 kq1) X → Part.ok W ⟨some ⟨g, 0, none⟩, 1, 1, [97]⟩ → Calls Tryz.prog 33 #[.pointer (some ⟨B, 0, none⟩), .agg #[.int .i64 2, .int .i64 0, .int .i64 1, .int .i64 5, .slice (some ⟨g, 0, none⟩) 1 1]] W fun x w' => ∃ r : Part, x = .returned (.tuple #[.agg #[.int .i64 0, .int .i64 1, .int .i64 5, .int .i64 5, .bool false, .slice r.ad r.len r.cap], .bool true]) ∧ Hid (r.l = [97] ∧ r.ok w') ∧ Hid (K8 w w' B s2 (knTo (knTo kn00 0 1 kq1) 0 1 kq2) X)) := hid (fun W B g X hK hp => hK.asked (e := 0) (ve := 1) (pe := 5) (be := 5) (se := false) (fun F hN => by
    refine asked_ok hN 2 0 1 5 (some ⟨g, 0, none⟩) 1 1 [97] (by decide) hp s2 (knTo (knTo kn00 0 1 kq1) 0 1 kq2) 0 1 5 5 false [97] (by omega) (by omega) (by omega) (by omega) (by simp) (fun W q hu hq hk hlc => ?_)
    have ha : knAt (knTo kn00 0 1 kq1) 0 1 = kq1 := knTo_at _ _ _ _
    exact go_2 hu 0 1 5 [97] (by decide) q hq hk hlc (by rw [ha]; exact kq1_ok) kq2 (by rw [ha]; rfl) s2 K2))
  have HA4 : Hid (∀ (W : World) (B : Nat) (X : List (Nat × Array Value)), K8 w W B s2 (knTo (knTo kn00 0 1 kq1) 0 1 kq2) X → Calls Tryz.prog 33 #[.pointer (some ⟨B, 0, none⟩), .agg #[.int .i64 4, .int .i64 0, .int .i64 0, .int .i64 0, .slice none 0 0]] W fun x w' => ∃ r : Part, x = .returned (.tuple #[.agg #[.int .i64 0, .int .i64 1, .int .i64 5, .int .i64 5, .bool false, .slice r.ad r.len r.cap], .bool true]) ∧ Hid (r.l = [97] ∧ r.ok w') ∧ Hid (K8 w w' B s2 (knTo (knTo kn00 0 1 kq1) 0 1 kq2) X)) := hid (fun W B X hK => hK.asked (e := 0) (ve := 1) (pe := 5) (be := 5) (se := false) (fun F hN => by
    refine asked_ok hN 4 0 0 0 none 0 0 [] (by decide) (nilPart W) s2 (knTo (knTo kn00 0 1 kq1) 0 1 kq2) 0 1 5 5 false [97] (by omega) (by omega) (by omega) (by omega) (by simp) (fun W q hu hq hk hlc => ?_)
    have ha : knAt (knTo (knTo kn00 0 1 kq1) 0 1 kq2) 0 1 = kq2 := knTo_at _ _ _ _
    have r := go_4 hu 0 1 [] (by decide) q hq hk hlc latest2 (by omega)
    rw [ha] at r
    exact r))
  have kc := lit_conv1
  clear K1 K2 i1 i2 f1 f2 l1 l2 t1 t2 f1' t1' l1' n20
  generalize knTo (knTo kn00 0 1 kq1) 0 1 kq2 = kn2 at *
  generalize knTo kn00 0 1 kq1 = kn1 at *
  go_enter Tryz.func23, Tryz.ntmps23
  go_wp2_with (first
    | (go_at_call 24; refine HNEW.mono ?_; intro x w1 hx; obtain ⟨B, rfl, KK1⟩ := HN.out _ _ hx; clear hx HN HNEW)
    | (go_at_call 19; refine (num8_any _ _).mono ?_; rintro x w' ⟨rfl, hw'⟩; obtain rfl := hw'.symm)
    | (go_at_call 33; (with_reducible_and_instances (refine (HA1.out w1 B [] KK1.out).mono ?_)); rintro x a1w ⟨r1, rfl, R1, KA1⟩; have KK2 : Hid (K8 w (a1w.alloc (.cells #[.int .i64 0, .int .i64 1, .int .i64 5, .int .i64 0, .bool false, .slice r1.ad r1.len r1.cap] 36)) B s1 kn1 [(a1w.heap.size, #[.int .i64 0, .int .i64 1, .int .i64 5, .int .i64 0, .bool false, .slice r1.ad r1.len r1.cap])]) := hid (KA1.out.alloc _); clear KA1 KK1 HA1)
    | (go_at_call 33; (with_reducible_and_instances (refine (HA2.out (litW (a1w.alloc (.cells #[.int .i64 0, .int .i64 1, .int .i64 5, .int .i64 0, .bool false, .slice r1.ad r1.len r1.cap] 36)) (.int .u8 97)) B (a1w.heap.size + 1) _ (KK2.out.later (litW_heap _ _).2.2) (lit_ok1 _ _)).mono ?_)); rintro x a2w ⟨r2, rfl, R2, KA2⟩; have KK3 : Hid (K8 w (a2w.alloc (.cells #[.int .i64 34, .int .i64 1, .int .i64 5, .int .i64 0, .bool false, .slice r2.ad r2.len r2.cap] 36)) B s1 kn1 [(a2w.heap.size, #[.int .i64 34, .int .i64 1, .int .i64 5, .int .i64 0, .bool false, .slice r2.ad r2.len r2.cap]), (a1w.heap.size, #[.int .i64 0, .int .i64 1, .int .i64 5, .int .i64 0, .bool false, .slice r1.ad r1.len r1.cap])]) := hid (KA2.out.alloc _); clear KA2 KK2 HA2)
    | (go_at_call 33; (with_reducible_and_instances (refine (HA3.out (litW (a2w.alloc (.cells #[.int .i64 34, .int .i64 1, .int .i64 5, .int .i64 0, .bool false, .slice r2.ad r2.len r2.cap] 36)) (.int .u8 97)) B (a2w.heap.size + 1) _ (KK3.out.later (litW_heap _ _).2.2) (lit_ok1 _ _)).mono ?_)); rintro x a3w ⟨r3, rfl, R3, KA3⟩; have KK4 : Hid (K8 w (a3w.alloc (.cells #[.int .i64 0, .int .i64 1, .int .i64 5, .int .i64 5, .bool false, .slice r3.ad r3.len r3.cap] 36)) B s2 kn2 [(a3w.heap.size, #[.int .i64 0, .int .i64 1, .int .i64 5, .int .i64 5, .bool false, .slice r3.ad r3.len r3.cap]), (a2w.heap.size, #[.int .i64 34, .int .i64 1, .int .i64 5, .int .i64 0, .bool false, .slice r2.ad r2.len r2.cap]), (a1w.heap.size, #[.int .i64 0, .int .i64 1, .int .i64 5, .int .i64 0, .bool false, .slice r1.ad r1.len r1.cap])]) := hid (KA3.out.alloc _); clear KA3 KK3 HA3)
    | (go_at_call 33; (with_reducible_and_instances (refine (HA4.out (a3w.alloc (.cells #[.int .i64 0, .int .i64 1, .int .i64 5, .int .i64 5, .bool false, .slice r3.ad r3.len r3.cap] 36)) B _ KK4.out).mono ?_)); rintro x a4w ⟨r4, rfl, R4, KA4⟩; have KK5 : Hid (K8 w (a4w.alloc (.cells #[.int .i64 0, .int .i64 1, .int .i64 5, .int .i64 5, .bool false, .slice r4.ad r4.len r4.cap] 36)) B s2 kn2 [(a4w.heap.size, #[.int .i64 0, .int .i64 1, .int .i64 5, .int .i64 5, .bool false, .slice r4.ad r4.len r4.cap]), (a3w.heap.size, #[.int .i64 0, .int .i64 1, .int .i64 5, .int .i64 5, .bool false, .slice r3.ad r3.len r3.cap]), (a2w.heap.size, #[.int .i64 34, .int .i64 1, .int .i64 5, .int .i64 0, .bool false, .slice r2.ad r2.len r2.cap]), (a1w.heap.size, #[.int .i64 0, .int .i64 1, .int .i64 5, .int .i64 0, .bool false, .slice r1.ad r1.len r1.cap])]) := hid (KA4.out.alloc _); have x1 := (KK5.out.box _ (List.mem_cons_of_mem _ (List.mem_cons_of_mem _ (List.mem_cons_of_mem _ List.mem_cons_self)))).cell 2; have x2 := (KK5.out.box _ (List.mem_cons_of_mem _ (List.mem_cons_of_mem _ (List.mem_cons_of_mem _ List.mem_cons_self)))).cell 0; have x3 := (KK5.out.box _ (List.mem_cons_of_mem _ (List.mem_cons_of_mem _ List.mem_cons_self))).cell 0; have x4 := (KK5.out.box _ (List.mem_cons_of_mem _ List.mem_cons_self)).cell 3; have kd := conv_any (((R4.out.2).later ((Below.refl _ _).alloc (Nat.le_refl _) (.cells #[.int .i64 0, .int .i64 1, .int .i64 5, .int .i64 5, .bool false, .slice r4.ad r4.len r4.cap] 36))).2.2) r4.len r4.cap (R4.out.2.1); rw [R4.out.1, show bstr [97] = ⟨#[97]⟩ from rfl] at kd; simp only at kd x1 x2 x3 x4; clear KA4 KK4 HA4 kc))
  go_ret
  exact ⟨by simp, KK5.out.below⟩
end Go.Proofs.YtmiibakbcogolaaGreat.Ac
namespace Go.Proofs.YtmiibakbcogolaaGreat.Ac
open Go.RowKit
variable {w : World} {v : Value}

/-- No acceptor, or one that nobody made. -/
def NoAcc (w : World) (v : Value) : Prop := v = .pointer none ∨ ∃ S, v = .pointer (some ⟨S, 0, none⟩) ∧ w.heap[S]? = some (.cells #[.pointer none, .pointer none, .map none] 70 (0, 0))
set_option maxRecDepth 100000 in
theorem nmade_no (h : NoAcc w v) : Calls Tryz.prog 58 #[v] w fun e w' => e = .returned (.bool false) ∧ w' = w := by
  rcases h with rfl | ⟨D, rfl, hD⟩
  · go_enter Tryz.func58, Tryz.ntmps58
    go_wp2
    all_goals go_ret
    all_goals simp
  · have c0 : w.cell? ⟨D, 0, none⟩ = some (.pointer none) := by rw [cell_of_row _ _ _ _ _ _ hD]; rfl
    clear hD
    go_enter Tryz.func58, Tryz.ntmps58
    go_wp2
    all_goals go_ret
    all_goals simp
set_option maxRecDepth 100000 in
theorem nup_no (h : NoAcc w v) : Calls Tryz.prog 31 #[v] w fun e w' => e = .returned (.bool false) ∧ w' = w := by
  have hm := nmade_no h
  go_enter Tryz.func31, Tryz.ntmps31
  go_wp2_with (go_at_call 58; refine hm.mono ?_; rintro e w' ⟨rfl, hw'⟩; obtain rfl := hw'.symm)
  go_ret
  exact ⟨rfl, rfl⟩
set_option maxRecDepth 100000 in
theorem nask_no (h : NoAcc w v) (ad : Option Addr) (len cap : Nat) : Calls Tryz.prog 29 #[v, .slice ad len cap] w fun e w' => e = .returned (.slice none 0 0) ∧ w' = w := by
  have hm := nup_no h
  go_enter Tryz.func29, Tryz.ntmps29
  go_wp2_with (go_at_call 31; refine hm.mono ?_; rintro e w' ⟨rfl, hw'⟩; obtain rfl := hw'.symm)
  go_ret
  exact ⟨rfl, rfl⟩
set_option maxRecDepth 100000 in
theorem nstart_no (h : NoAcc w v) (ad : Option Addr) (len cap : Nat) : Calls Tryz.prog 30 #[v, .slice ad len cap] w fun e w' => e = .returned (.int .i64 1) ∧ w' = w := by
  have hm := nmade_no h
  go_enter Tryz.func30, Tryz.ntmps30
  go_wp2_with (go_at_call 58; refine hm.mono ?_; rintro e w' ⟨rfl, hw'⟩; obtain rfl := hw'.symm)
  go_ret
  exact ⟨rfl, rfl⟩
set_option maxRecDepth 100000 in
theorem ncut_no (h : NoAcc w v) (i : Int) : Calls Tryz.prog 27 #[v, .int .i64 i] w fun e w' => e = .returned (.tuple #[]) ∧ w' = w := by
  have hm := nmade_no h
  go_enter Tryz.func27, Tryz.ntmps27
  go_wp2_with (go_at_call 58; refine hm.mono ?_; rintro e w' ⟨rfl, hw'⟩; obtain rfl := hw'.symm)
  exact bodyPost_end (results_none rfl _ _ _) rfl ⟨rfl, rfl⟩
set_option maxRecDepth 100000 in
theorem nstop_no (h : NoAcc w v) : Calls Tryz.prog 28 #[v] w fun e w' => e = .returned (.tuple #[]) ∧ w' = w := by
  have hm := nmade_no h
  go_enter Tryz.func28, Tryz.ntmps28
  go_wp2_with (go_at_call 58; refine hm.mono ?_; rintro e w' ⟨rfl, hw'⟩; obtain rfl := hw'.symm)
  exact bodyPost_end (results_none rfl _ _ _) rfl ⟨rfl, rfl⟩
set_option maxRecDepth 100000 in
set_option maxHeartbeats 4000000 in
theorem acceptorNil_any (ad : Option Addr) (len cap : Nat) (ad2 : Option Addr) (len2 cap2 : Nat) (w : World) :
    Calls Tryz.prog 5 #[.slice ad len cap, .slice ad2 len2 cap2] w fun e w' => e = .returned (.bool true) ∧ Below w.heap.size w w' := by
  go_enter Tryz.func5, Tryz.ntmps5
  go_wp2
  go_loopw [5, 6] (fun v k wr => ∃ (m : Nat) (p : Option Addr), m ≤ 2 ∧ k = .int .i64 m ∧ v = .pointer p ∧ Hid (NoAcc wr (.pointer p)) ∧ Hid (Below w.heap.size w wr)) (fun _ k _ => 2 - (intOf k).toNat)
  case atStart => exact ⟨0, none, by omega, rfl, rfl, (show Hid _ from Or.inl rfl), (show Hid _ from Below.refl _ w)⟩
  case round =>
    obtain ⟨m, p, hm, rfl, rfl, HN, HB⟩ := hrel
    by_cases hlt : m < 2
    · have ha := nask_no HN.out ad len cap
      have hs := nstart_no HN.out ad2 len2 cap2
      have hc := ncut_no HN.out 1
      have hp := nstop_no HN.out
      have hu := nup_no HN.out
      go_wp2_with (first
        | (go_at_call 27; refine hc.mono ?_; rintro e w' ⟨rfl, hw'⟩; obtain rfl := hw'.symm)
        | (go_at_call 28; refine hp.mono ?_; rintro e w' ⟨rfl, hw'⟩; obtain rfl := hw'.symm)
        | (go_at_call 29; refine ha.mono ?_; rintro e w' ⟨rfl, hw'⟩; obtain rfl := hw'.symm)
        | (go_at_call 30; refine hs.mono ?_; rintro e w' ⟨rfl, hw'⟩; obtain rfl := hw'.symm)
        | (go_at_call 19; refine (num8_any _ _).mono ?_; rintro e w' ⟨rfl, hw'⟩; obtain rfl := hw'.symm)
        | (go_at_call 31; refine hu.mono ?_; rintro e w' ⟨rfl, hw'⟩; obtain rfl := hw'.symm))
      go_roundw
      case rel => exact ⟨m + 1, some ⟨wr.heap.size, 0, none⟩, by omega, by go_num, rfl, (show Hid _ from Or.inr ⟨_, rfl, heap_alloc_last _ _⟩), (show Hid _ from HB.out.alloc HB.out.size _)⟩
      case measure => simp [intOf]; omega
    · obtain rfl : m = 2 := by omega
      go_wp2_with (go_at_call 23; refine (knows8 _).mono ?_; rintro e w' ⟨rfl, hk⟩)
      go_ret
      exact ⟨rfl, HB.out.trans (hk.mono HB.out.size)⟩
end Go.Proofs.YtmiibakbcogolaaGreat.Ac
