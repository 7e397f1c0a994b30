/- trim of package node. A node's answers over plain data: a store whose disk has power and no fuse (P503, P504, P507). Ask of a node that is up: repair. Ask of a node that is up: look. Ask of a node that is up: trim. Ask of a node that is up, of bytes that are no request. Ask of a node that is up, of any bytes. -/
import Derived.Test.YtjldflfoncfndaaGreatPUp
import Derived.Test.YtjldflfoncfndaaGreatSTrimP
import Derived.Test.YtjldflfoncfndaaGreatPOpen
import Derived.Test.YtjldflfoncfndaaGreatPAsk
import Derived.Test.YtjldflfoncfndaaGreatNBackM
import Derived.Test.YtjldflfoncfndaaGreatPNode
import Derived.Test.YtjldflfoncfndaaGreatPKnow
namespace Go.Proofs.YtjldflfoncfndaaGreat
open Go.RowKit Go.Shelf
variable {w w' W : World} {F : List Nat} {B : Nat} {s : SSt}

set_option maxRecDepth 100000 in
set_option maxHeartbeats 4000000 in
theorem trim_up (h : NUp w F B s) (k l p : Int) (hl1 : -9223372036854775808 ≤ l) (hl2 : l ≤ 9223372036854775807) (ad : Option Addr) (len cap : Nat) (hfew : ∀ x ∈ s.d.bs, x.vs.length ≤ 1000000) :
    Calls Tryz.prog 90 #[.pointer (some ⟨B, 0, none⟩), reqV k l p ad len cap] w (DPost F B (s.trim l p).2 [] (s.trim l p).1 w) := by
  obtain ⟨FD, G, S, D, X, Y, fx, fy, A, h1, h2, n1, n2, s1, s2, mB, lt⟩ := h
  obtain ⟨W0, hW0⟩ : ∃ W0, w.alloc (.cells #[.int .i64 k, .int .i64 l, .int .i64 p, .slice ad len cap] 27) = W0 := ⟨_, rfl⟩
  have b0 : Below w.heap.size w W0.drew := by rw [← hW0]; exact ((Below.refl _ w).alloc (Nat.le_refl _) _).drew
  have X0 : Blk W0.drew w.heap.size #[.int .i64 k, .int .i64 l, .int .i64 p, .slice ad len cap] 27 := by
    rw [← hW0]
    exact heap_alloc_last w _
  have hB := h2.later b0
  have HC := trim_pic (h1.below b0) l p hl1 hl2 hfew
  have hn : B ∉ G ++ FD := fun hm => (List.mem_append.1 hm).elim n2 n1
  have hm : w.heap.size ∉ G ++ FD := fun hm => by
    have := lt _ ((List.mem_append.1 hm).elim (s2 _) (s1 _))
    omega
  have HQ : Hid (∀ x w2, SPost W0.drew FD G S D X Y (s.trim l p) x w2 → x = .returned (.int .i64 (s.trim l p).1) ∧ Hid (NMoved F B (s.trim l p).2 w w2) ∧ Hid (w2.cell? ⟨B, 1, none⟩ = some (.pointer (some ⟨S, 0, none⟩)) ∧ w2.cell? ⟨w.heap.size, 1, none⟩ = some (.int .i64 l) ∧ w2.cell? ⟨w.heap.size, 2, none⟩ = some (.int .i64 p))) := (show Hid _ from fun x w2 hx => by
    obtain ⟨e, m⟩ := hx.node hB n1 n2 s1 s2 mB (fun g hg => Nat.lt_of_lt_of_le (lt g hg) b0.size)
    obtain ⟨-, _, _, _, _, _, _, _, _, hc⟩ := hx
    exact ⟨e, (show Hid _ from m.pre b0 h2.lt), (show Hid _ from ⟨(hB.chg hc hn).cell 1, (X0.chg hc hm).cell 1, (X0.chg hc hm).cell 2⟩)⟩)
  have HS : Hid (W0.drew.cell? ⟨B, 1, none⟩ = some (.pointer (some ⟨S, 0, none⟩)) ∧ W0.drew.cell? ⟨w.heap.size, 1, none⟩ = some (.int .i64 l) ∧ W0.drew.cell? ⟨w.heap.size, 2, none⟩ = some (.int .i64 p)) := (show Hid _ from ⟨hB.cell 1, X0.cell 1, X0.cell 2⟩)
  generalize s.trim l p = r at *
  clear h1 h2 n1 n2 s1 s2 mB lt hfew X0 hB b0 hn hm
  unfold reqV
  go_enter Tryz.func90, Tryz.ntmps90
  go_wp2_with fail
  go_region_held3 (fun W => W.cell? ⟨B, 1, none⟩ = some (.pointer (some ⟨S, 0, none⟩)) ∧ W.cell? ⟨w.heap.size, 1, none⟩ = some (.int .i64 l) ∧ W.cell? ⟨w.heap.size, 2, none⟩ = some (.int .i64 p))
    (first | exact HS.out | exact S2.out)
    ((go_at_call 114; refine HC.mono ?_; intro x w2 hx; obtain ⟨rfl, M, S2⟩ := HQ.out _ _ hx; clear hx))
  go_wp2
  go_ret2
  exact ⟨⟨none, 0, 0, []⟩, rfl, rfl, ⟨rfl, fun _ => ⟨rfl, rfl⟩, fun _ h => (by cases h), Or.inl rfl⟩, M.out⟩
end Go.Proofs.YtjldflfoncfndaaGreat
namespace Go.Proofs.YtjldflfoncfndaaGreat
open Go.RowKit Go.Shelf Crcm

/-- A store that can be written, with data that a reply has room for. -/
structure Good (s : SSt) : Prop where
  free : s.d.free
  clean : s.d.clean
  up : s.fallen = false
  small : ∀ l p d, s.slots l p = some d → d.length ≤ 65504
variable {s : SSt}
theorem Good.down (h : Good s) : s.down = false := by unfold SSt.down; rw [h.up, h.free.on]; rfl
/-- What a request of a kind does. -/
def doN (s : SSt) (k : Nat) (g p : Int) (d : List Nat) : Int × List Nat × SSt :=
  if k = 1 then ((s.put g p d false).1, [], (s.put g p d false).2) else if k = 2 then ((s.put g p d true).1, [], (s.put g p d true).2)
  else if k = 3 then ((s.seal g).1, [], (s.seal g).2) else if k = 4 then ((s.get g p).2, (s.get g p).1, s) else if k = 5 then (0, [], s) else ((s.trim g p).1, [], (s.trim g p).2)
theorem takeE_fallen (s : SSt) (e : Ent) : (s.takeE e).fallen = s.fallen := by
  unfold SSt.takeE SSt.doE SSt.fill SSt.sealL SSt.giveUp
  simp only
  split
  · split <;> rfl
  · split <;> rfl
theorem takeE_slots (s : SSt) (e : Ent) (l p : Nat) (d : List Nat) (h : (s.takeE e).slots l p = some d) : s.slots l p = some d ∨ (e.kind = 1 ∧ d = e.data) := by
  unfold SSt.takeE SSt.doE SSt.fill SSt.sealL SSt.giveUp SSt.setLog SSt.setSlot at h
  simp only at h
  split at h
  · rename_i hk
    split at h
    · simp only at h
      split at h
      · cases h; exact Or.inr ⟨hk, rfl⟩
      · exact Or.inl h
    · exact Or.inl h
  · split at h
    · exact Or.inl h
    · simp only at h
      split at h
      · cases h
      · exact Or.inl h
theorem Good.record (h : Good s) (e : Ent) (hd : e.kind = 1 → e.data.length ≤ 65504) : ((s.record e).1 = 0 ∨ s.record e = (7, s)) ∧ Good (s.record e).2 := by
  by_cases hr : s.d.bs.length < s.fin + e.parts
  · rw [record_full e hr]; exact ⟨Or.inr rfl, h⟩
  · obtain ⟨d, h1, h2, h3, h4⟩ := record_free h.free h.clean e (by omega)
    rw [h1]
    refine ⟨Or.inl rfl, by rw [takeE_d]; exact h2, by rw [takeE_d]; exact h3, by rw [takeE_fallen]; exact h.up, fun l p dd hdd => ?_⟩
    rcases takeE_slots _ e l p dd hdd with h5 | ⟨h5, rfl⟩
    · exact h.small l p dd h5
    · exact hd h5
/-- What the error of an answer is. -/
def smallE (z : Int) : Prop := 0 ≤ z ∧ z ≤ 255 ∧ z ≠ 8
theorem Good.put (h : Good s) (g p : Int) (d : List Nat) (r : Bool) (hd : d.length ≤ 65504) : smallE (s.put g p d r).1 ∧ Good (s.put g p d r).2 := by
  have hr := h.record ⟨1, g.toNat, p.toNat, d⟩ (fun _ => hd)
  unfold SSt.put
  rw [h.down]
  repeat' split
  all_goals first
    | (rename_i hh; exact absurd hh (by decide))
    | (refine ⟨?_, h⟩; unfold smallE; simp; done)
    | (refine ⟨?_, hr.2⟩; rcases hr.1 with h1 | h1 <;> rw [h1] <;> unfold smallE <;> simp)
theorem Good.seal (h : Good s) (g : Int) : smallE (s.seal g).1 ∧ Good (s.seal g).2 := by
  have hr := h.record ⟨2, g.toNat, 0, []⟩ (fun hk => by simp at hk)
  unfold SSt.seal
  rw [h.down]
  repeat' split
  all_goals first
    | (rename_i hh; exact absurd hh (by decide))
    | (refine ⟨?_, h⟩; unfold smallE; simp; done)
    | (refine ⟨?_, hr.2⟩; rcases hr.1 with h1 | h1 <;> rw [h1] <;> unfold smallE <;> simp)
theorem Good.trim (h : Good s) (g p : Int) : smallE (s.trim g p).1 ∧ Good (s.trim g p).2 := by
  have hr := h.record ⟨3, g.toNat, p.toNat, []⟩ (fun hk => by simp at hk)
  unfold SSt.trim
  rw [h.down]
  repeat' split
  all_goals first
    | (rename_i hh; exact absurd hh (by decide))
    | (refine ⟨?_, h⟩; unfold smallE; simp; done)
    | (refine ⟨?_, hr.2⟩; rcases hr.1 with h1 | h1 <;> rw [h1] <;> unfold smallE <;> simp)
theorem Good.get (h : Good s) (g p : Int) : smallE (s.get g p).2 ∧ (s.get g p).1.length ≤ 65504 := by
  unfold SSt.get
  repeat' split
  all_goals first
    | (rename_i hh; refine ⟨?_, h.small _ _ _ hh⟩; unfold smallE; simp; done)
    | exact ⟨by unfold smallE; simp, by simp⟩
theorem Good.doN (h : Good s) (k : Nat) (g p : Int) (d : List Nat) (hd : d.length ≤ 65504) : smallE (doN s k g p d).1 ∧ (doN s k g p d).2.1.length ≤ 65504 ∧ Good (doN s k g p d).2.2 := by
  unfold Go.Proofs.YtjldflfoncfndaaGreat.doN
  split
  · exact ⟨(h.put g p d false hd).1, by simp, (h.put g p d false hd).2⟩
  · split
    · exact ⟨(h.put g p d true hd).1, by simp, (h.put g p d true hd).2⟩
    · split
      · exact ⟨(h.seal g).1, by simp, (h.seal g).2⟩
      · split
        · exact ⟨(h.get g p).1, (h.get g p).2, h⟩
        · split
          · exact ⟨by unfold smallE; simp, by simp, h⟩
          · exact ⟨(h.trim g p).1, by simp, (h.trim g p).2⟩
/-- What Ask answers, and leaves. -/
def askN (s : SSt) (l : List Nat) : List Nat × SSt :=
  if unpackN l 1 9 = true ∧ reqIn (bodyAt l 0) = true then
    (frameBs 2 (replyN (doN s (reqK (bodyAt l 0)) (reqL (bodyAt l 0) : Nat) (reqP (bodyAt l 0) : Nat) ((bodyAt l 0).drop 9)).1.toNat ((doN s (reqK (bodyAt l 0)) (reqL (bodyAt l 0) : Nat) (reqP (bodyAt l 0) : Nat) ((bodyAt l 0).drop 9)).2.2.look (reqL (bodyAt l 0) : Nat)).tail ((doN s (reqK (bodyAt l 0)) (reqL (bodyAt l 0) : Nat) (reqP (bodyAt l 0) : Nat) ((bodyAt l 0).drop 9)).2.2.look (reqL (bodyAt l 0) : Nat)).sealed.toNat (doN s (reqK (bodyAt l 0)) (reqL (bodyAt l 0) : Nat) (reqP (bodyAt l 0) : Nat) ((bodyAt l 0).drop 9)).2.1),
      (doN s (reqK (bodyAt l 0)) (reqL (bodyAt l 0) : Nat) (reqP (bodyAt l 0) : Nat) ((bodyAt l 0).drop 9)).2.2)
  else (frameBs 2 (replyN 22 0 0 []), s)
theorem reqIn_data {l : List Nat} (h : reqIn (bodyAt l 0) = true) : ((bodyAt l 0).drop 9).length ≤ 65504 := by
  unfold reqIn at h
  have := (reqMay_lim h).2.2.2
  rw [List.length_drop]
  exact this
theorem Good.ask (h : Good s) (l : List Nat) : Good (askN s l).2 := by
  unfold askN
  split
  · rename_i hh
    exact (h.doN _ _ _ _ (reqIn_data hh.2)).2.2
  · exact h
/-- P507: what comes twice is done once. -/
theorem Good.put2 (h : Good s) (g p : Int) (d : List Nat) (r : Bool) : (s.put g p d r).2.put g p d r = ((s.put g p d r).1, (s.put g p d r).2) := by
  by_cases h1 : (isLogletN g && isPlaceN p) = true
  · by_cases h2 : 65536 < d.length
    · have e : ∀ t : SSt, t.put g p d r = (6, t) := fun t => by unfold SSt.put; rw [if_pos h1, if_pos h2]
      rw [e s, e s]
    · by_cases h3 : p.toNat < (s.log g.toNat).trim
      · have e : s.put g p d r = (32, s) := by unfold SSt.put; rw [if_pos h1, if_neg h2, if_neg (by rw [h.down]; simp), if_pos h3]
        rw [e]; exact e
      · cases hs : s.slots g.toNat p.toNat with
        | some was =>
          by_cases h4 : was = d
          · have e : s.put g p d r = (0, s) := by unfold SSt.put; rw [if_pos h1, if_neg h2, if_neg (by rw [h.down]; simp), if_neg h3, hs]; simp [h4]
            rw [e]; exact e
          · have e : s.put g p d r = (31, s) := by unfold SSt.put; rw [if_pos h1, if_neg h2, if_neg (by rw [h.down]; simp), if_neg h3, hs]; simp [h4]
            rw [e]; exact e
        | none =>
          by_cases h4 : ((s.log g.toNat).sealed && !r) = true
          · have e : s.put g p d r = (30, s) := by unfold SSt.put; rw [if_pos h1, if_neg h2, if_neg (by rw [h.down]; simp), if_neg h3, hs]; simp only; rw [if_pos h4]
            rw [e]; exact e
          · have e : s.put g p d r = s.record ⟨1, g.toNat, p.toNat, d⟩ := by unfold SSt.put; rw [if_pos h1, if_neg h2, if_neg (by rw [h.down]; simp), if_neg h3, hs]; simp only; rw [if_neg h4]
            by_cases hr : s.d.bs.length < s.fin + (⟨1, g.toNat, p.toNat, d⟩ : Ent).parts
            · have e2 := record_full (s := s) ⟨1, g.toNat, p.toNat, d⟩ hr
              rw [e, e2]
              simp only
              rw [e, e2]
            · obtain ⟨dd, q1, q2, q3, q4⟩ := record_free h.free h.clean ⟨1, g.toNat, p.toNat, d⟩ (by omega)
              rw [e, q1]
              simp only
              have hcond : ({ s with d := dd } : SSt).slots g.toNat p.toNat = none ∧ (({ s with d := dd } : SSt).log g.toNat).trim ≤ p.toNat := ⟨hs, by show (s.log g.toNat).trim ≤ p.toNat; omega⟩
              have e5 : ({ s with d := dd } : SSt).takeE ⟨1, g.toNat, p.toNat, d⟩ = { d := dd, slots := fun i q => if i = g.toNat ∧ q = p.toNat then some d else s.slots i q, logs := fun j => if j = g.toNat then some ⟨max (s.log g.toNat).tail (p.toNat + 1), (s.log g.toNat).trim, (s.log g.toNat).sealed⟩ else s.logs j, num := s.num + 1, fin := s.fin + (⟨1, g.toNat, p.toNat, d⟩ : Ent).parts, fallen := s.fallen } := by
                unfold SSt.takeE SSt.doE SSt.fill
                rw [if_pos rfl, if_pos hcond]
                rfl
              rw [e5]
              unfold SSt.put
              have hdn : ({ d := dd, slots := fun i q => if i = g.toNat ∧ q = p.toNat then some d else s.slots i q, logs := fun j => if j = g.toNat then some ⟨max (s.log g.toNat).tail (p.toNat + 1), (s.log g.toNat).trim, (s.log g.toNat).sealed⟩ else s.logs j, num := s.num + 1, fin := s.fin + (⟨1, g.toNat, p.toNat, d⟩ : Ent).parts, fallen := s.fallen } : SSt).down = false := by
                unfold SSt.down
                simp only [h.up, q2.on]
                rfl
              rw [if_pos h1, if_neg h2, if_neg (by rw [hdn]; simp)]
              have htr : ({ d := dd, slots := fun i q => if i = g.toNat ∧ q = p.toNat then some d else s.slots i q, logs := fun j => if j = g.toNat then some ⟨max (s.log g.toNat).tail (p.toNat + 1), (s.log g.toNat).trim, (s.log g.toNat).sealed⟩ else s.logs j, num := s.num + 1, fin := s.fin + (⟨1, g.toNat, p.toNat, d⟩ : Ent).parts, fallen := s.fallen } : SSt).log g.toNat = ⟨max (s.log g.toNat).tail (p.toNat + 1), (s.log g.toNat).trim, (s.log g.toNat).sealed⟩ := by simp [SSt.log]
              rw [htr, if_neg h3]
              simp
  · have e : ∀ t : SSt, t.put g p d r = (1, t) := fun t => by unfold SSt.put; rw [if_neg h1]
    rw [e s, e s]
theorem Good.seal2 (h : Good s) (g : Int) : (s.seal g).2.seal g = ((s.seal g).1, (s.seal g).2) := by
  by_cases h1 : isLogletN g = true
  · by_cases h3 : (s.log g.toNat).sealed = true
    · have e : s.seal g = (0, s) := by unfold SSt.seal; rw [if_pos h1, if_neg (by rw [h.down]; simp), if_pos h3]
      rw [e]; exact e
    · have e : s.seal g = s.record ⟨2, g.toNat, 0, []⟩ := by unfold SSt.seal; rw [if_pos h1, if_neg (by rw [h.down]; simp), if_neg h3]
      by_cases hr : s.d.bs.length < s.fin + (⟨2, g.toNat, 0, []⟩ : Ent).parts
      · have e2 := record_full (s := s) ⟨2, g.toNat, 0, []⟩ hr
        rw [e, e2]
        simp only
        rw [e, e2]
      · obtain ⟨dd, q1, q2, q3, q4⟩ := record_free h.free h.clean ⟨2, g.toNat, 0, []⟩ (by omega)
        rw [e, q1]
        simp only
        have e5 : ({ s with d := dd } : SSt).takeE ⟨2, g.toNat, 0, []⟩ = { d := dd, slots := s.slots, logs := fun j => if j = g.toNat then some ⟨(s.log g.toNat).tail, (s.log g.toNat).trim, true⟩ else s.logs j, num := s.num + 1, fin := s.fin + (⟨2, g.toNat, 0, []⟩ : Ent).parts, fallen := s.fallen } := by
          unfold SSt.takeE SSt.doE SSt.sealL
          rfl
        rw [e5]
        unfold SSt.seal
        rw [if_pos h1, if_neg (by unfold SSt.down; simp [h.up, q2.on]), if_pos (by simp [SSt.log])]
  · have e : ∀ t : SSt, t.seal g = (1, t) := fun t => by unfold SSt.seal; rw [if_neg h1]
    rw [e s, e s]
theorem Good.trim2 (h : Good s) (g p : Int) : (s.trim g p).2.trim g p = ((s.trim g p).1, (s.trim g p).2) := by
  by_cases h1 : (isLogletN g && isTrimN p) = true
  · by_cases h3 : p.toNat ≤ (s.log g.toNat).trim
    · have e : s.trim g p = (0, s) := by unfold SSt.trim; rw [if_pos h1, if_neg (by rw [h.down]; simp), if_pos h3]
      rw [e]; exact e
    · have e : s.trim g p = s.record ⟨3, g.toNat, p.toNat, []⟩ := by unfold SSt.trim; rw [if_pos h1, if_neg (by rw [h.down]; simp), if_neg h3]
      by_cases hr : s.d.bs.length < s.fin + (⟨3, g.toNat, p.toNat, []⟩ : Ent).parts
      · have e2 := record_full (s := s) ⟨3, g.toNat, p.toNat, []⟩ hr
        rw [e, e2]
        simp only
        rw [e, e2]
      · obtain ⟨dd, q1, q2, q3, q4⟩ := record_free h.free h.clean ⟨3, g.toNat, p.toNat, []⟩ (by omega)
        rw [e, q1]
        simp only
        have hl : (({ s with d := dd } : SSt).takeE ⟨3, g.toNat, p.toNat, []⟩).log g.toNat = ⟨max (s.log g.toNat).tail p.toNat, max (s.log g.toNat).trim p.toNat, (s.log g.toNat).sealed⟩ := by
          simp [SSt.takeE, SSt.doE, SSt.giveUp, SSt.setLog, SSt.log]
        unfold SSt.trim
        rw [if_pos h1, if_neg (by unfold SSt.down; rw [takeE_fallen, takeE_d]; simp [h.up, q2.on]), hl, if_pos (by simp only; omega)]
  · have e : ∀ t : SSt, t.trim g p = (1, t) := fun t => by unfold SSt.trim; rw [if_neg h1]
    rw [e s, e s]
theorem Good.twice (h : Good s) (k : Nat) (g p : Int) (d : List Nat) : Go.Proofs.YtjldflfoncfndaaGreat.doN (Go.Proofs.YtjldflfoncfndaaGreat.doN s k g p d).2.2 k g p d = Go.Proofs.YtjldflfoncfndaaGreat.doN s k g p d := by
  unfold Go.Proofs.YtjldflfoncfndaaGreat.doN
  split
  · rw [h.put2]
  · split
    · rw [h.put2]
    · split
      · rw [h.seal2]
      · split
        · rfl
        · split
          · rfl
          · rw [h.trim2]
theorem Good.ask2 (h : Good s) (l : List Nat) : askN (askN s l).2 l = askN s l := by
  unfold askN
  by_cases hh : unpackN l 1 9 = true ∧ reqIn (bodyAt l 0) = true
  · simp only [if_pos hh]
    rw [h.twice]
  · simp only [if_neg hh]
theorem good_new (n : Nat) : Good (sst0 (newD n)) := by
  obtain ⟨f0, c0, _⟩ := new_free n
  exact ⟨f0, c0, rfl, fun l p d h => by cases h⟩
end Go.Proofs.YtjldflfoncfndaaGreat
namespace Go.Proofs.YtjldflfoncfndaaGreat
open Go.RowKit Go.Shelf Crcm
variable {w w' W : World} {F : List Nat} {B : Nat} {s : SSt}
set_option maxRecDepth 100000 in
set_option maxHeartbeats 8000000 in
theorem ask_2 (h : NUp w F B s) (ad : Option Addr) (len cap : Nat) (l : List Nat) (hp : Part.ok w ⟨ad, len, cap, l⟩) (hlc : len ≤ cap) (hm : len ≤ 1000000000000000) (hu : unpackN l 1 9 = true) (hin : reqIn (bodyAt l 0) = true) (hk : reqK (bodyAt l 0) = 2)
    (s' : SSt) (ee : Nat) (dl : List Nat) (he : ee ≤ 255) (he8 : ee ≠ 8) (hdl : dl.length ≤ 65504)
    (hdo : ∀ (W : World) (g o n c : Nat), NUp W F B s → Part.ok W ⟨some ⟨g, o, none⟩, n, c, (bodyAt l 0).drop 9⟩ → Calls Tryz.prog 86 #[.pointer (some ⟨B, 0, none⟩), reqV 2 (reqL (bodyAt l 0) : Nat) (reqP (bodyAt l 0) : Nat) (some ⟨g, o, none⟩) n c] W (DPost F B s' dl (ee : Int) W)) :
    Calls Tryz.prog 29 #[.pointer (some ⟨B, 0, none⟩), .slice ad len cap] w (APost F B s' (frameBs 2 (replyN ee (s'.look (reqL (bodyAt l 0) : Nat)).tail (s'.look (reqL (bodyAt l 0) : Nat)).sealed.toNat dl)) w) := by
  have HU := nup_up h
  have HG := getReq_yes ad len cap l w hp hlc hm hu hin
  have hgl : reqL (bodyAt l 0) < 281474976710656 := by
    unfold reqIn at hin
    have := (reqMay_lim hin).2.1
    exact this
  rw [hk] at HG
  obtain ⟨gl, hgl0⟩ : ∃ gl, gl = reqL (bodyAt l 0) := ⟨_, rfl⟩
  obtain ⟨ps, hps0⟩ : ∃ ps, ps = reqP (bodyAt l 0) := ⟨_, rfl⟩
  rw [← hgl0, ← hps0] at HG hdo
  rw [← hgl0] at hgl ⊢
  have HLT : Hid (∀ g ∈ F, g < w.heap.size) := (show Hid _ from (by obtain ⟨_, _, _, _, _, _, _, _, _, _, _, _, _, _, _, _, hl⟩ := h; exact hl))
  have HBF : Hid (B < w.heap.size) := (show Hid _ from (by obtain ⟨_, _, _, _, _, _, _, _, _, _, k2, _⟩ := h; exact k2.lt))
  have HN : Hid (NUp w F B s) := h
  have HDO : Hid (∀ (W : World) (g o n c : Nat), NUp W F B s → Part.ok W ⟨some ⟨g, o, none⟩, n, c, (bodyAt l 0).drop 9⟩ → Calls Tryz.prog 86 #[.pointer (some ⟨B, 0, none⟩), reqV 2 (gl : Int) (ps : Int) (some ⟨g, o, none⟩) n c] W (DPost F B s' dl (ee : Int) W)) := hdo
  clear h hp hlc hm hu hin hk hgl0 hps0 hdo
  have he8' : ((ee : Int) == 8) = false := by simp; omega
  unfold reqV at HG
  go_enter Tryz.func29, Tryz.ntmps29
  go_wp2_with (first
    | (go_at_call 31; refine HU.mono ?_; rintro x w' ⟨rfl, hw'⟩; obtain rfl := hw'.symm)
    | (go_at_call 15; refine HG.mono ?_; rintro x V ⟨g, o, n, c, rfl, kp, hnc, hg, hb⟩; have BV : Hid (Below w.heap.size w V) := hb; have KP : Hid (Part.ok V ⟨some ⟨g, o, none⟩, n, c, (bodyAt l 0).drop 9⟩) := kp; clear hb kp hg HG HU))
  obtain ⟨W1, hW1⟩ : ∃ W1, (V.alloc (.cells #[.int .i64 2, .int .i64 (gl : Int), .int .i64 (ps : Int), .slice (some ⟨g, o, none⟩) n c] 27)) = W1 := ⟨_, rfl⟩
  have B1 : Hid (Below V.heap.size V W1) := (show Hid _ from (by rw [← hW1]; exact (Below.refl _ V).alloc (Nat.le_refl _) _))
  have X1 : Hid (Blk W1 V.heap.size #[.int .i64 2, .int .i64 (gl : Int), .int .i64 (ps : Int), .slice (some ⟨g, o, none⟩) n c] 27) := (show Hid _ from (by rw [← hW1]; exact heap_alloc_last V _))
  rw [hW1]
  clear hW1
  obtain ⟨W2, hW2⟩ : ∃ W2, (W1.alloc (.cells #[.nilFunc, .func (.func 85) #[] #[], .func (.func 86) #[] #[], .func (.func 87) #[] #[], .func (.func 88) #[] #[], .func (.func 89) #[] #[], .func (.func 90) #[] #[]] 103)).drew = W2 := ⟨_, rfl⟩
  have B2 : Hid (Below W1.heap.size W1 W2) := (show Hid _ from (by rw [← hW2]; exact ((Below.refl _ W1).alloc (Nat.le_refl _) _).drew))
  have X2 : Hid (Blk W2 V.heap.size #[.int .i64 2, .int .i64 (gl : Int), .int .i64 (ps : Int), .slice (some ⟨g, o, none⟩) n c] 27) := (show Hid _ from X1.out.later B2.out)
  have BW : Hid (Below w.heap.size w W2) := (show Hid _ from (BV.out.trans (B1.out.mono BV.out.size)).trans (B2.out.mono (Nat.le_trans BV.out.size B1.out.size)))
  have N2 : Hid (NUp W2 F B s) := (show Hid _ from HN.out.later BW.out)
  have HD := HDO.out W2 g o n c N2.out ((KP.out.later B1.out).later B2.out)
  unfold reqV at HD
  have SD : Hid (W1.drew.cell? ⟨V.heap.size, 0, none⟩ = some (.int .i64 2) ∧ W1.drew.cell? ⟨V.heap.size, 1, none⟩ = some (.int .i64 (gl : Int)) ∧ W1.drew.cell? ⟨V.heap.size, 2, none⟩ = some (.int .i64 (ps : Int)) ∧ W1.drew.cell? ⟨V.heap.size, 3, none⟩ = some (.slice (some ⟨g, o, none⟩) n c)) := (show Hid _ from (by have q : Blk W1.drew V.heap.size _ _ := X1.out.later (Below.refl _ _).drew; exact ⟨q.cell 0, q.cell 1, q.cell 2, q.cell 3⟩))
  have SE : Hid (W2.cell? ⟨V.heap.size, 0, none⟩ = some (.int .i64 2) ∧ W2.cell? ⟨V.heap.size, 1, none⟩ = some (.int .i64 (gl : Int)) ∧ W2.cell? ⟨V.heap.size, 2, none⟩ = some (.int .i64 (ps : Int)) ∧ W2.cell? ⟨V.heap.size, 3, none⟩ = some (.slice (some ⟨g, o, none⟩) n c)) := (show Hid _ from ⟨X2.out.cell 0, X2.out.cell 1, X2.out.cell 2, X2.out.cell 3⟩)
  have HVW : Hid (w.heap.size ≤ V.heap.size) := (show Hid _ from BV.out.size)
  have HDP : Hid (∀ x w3, DPost F B s' dl (ee : Int) W2 x w3 → ∃ q : Part, x = .returned (.tuple #[.slice q.ad q.len q.cap, .int .i64 (ee : Int)]) ∧ q.len ≤ 65504 ∧ Hid (q.l = dl ∧ q.ok w3) ∧ Hid (NMoved F B s' w w3) ∧ Hid (Blk w3 V.heap.size #[.int .i64 2, .int .i64 (gl : Int), .int .i64 (ps : Int), .slice (some ⟨g, o, none⟩) n c] 27)) := (show Hid _ from fun x w3 hx => by
    obtain ⟨q, rfl, e1, k1, m1⟩ := hx
    exact ⟨q, rfl, by rw [← k1.1, e1]; exact hdl, (show Hid _ from ⟨e1, k1⟩), (show Hid _ from m1.pre BW.out HBF.out), (show Hid _ from chg_blk X2.out m1.2.1 (fun g hg => Nat.lt_of_lt_of_le (HLT.out g hg) HVW.out))⟩)
  have hix := fun W => (doers5_at .nilFunc (.func (.func 85) #[] #[]) (.func (.func 86) #[] #[]) (.func (.func 87) #[] #[]) (.func (.func 88) #[] #[]) (.func (.func 89) #[] #[]) (.func (.func 90) #[] #[]) W).2.1
  go_region_held3 (fun W => W.cell? ⟨V.heap.size, 0, none⟩ = some (.int .i64 2) ∧ W.cell? ⟨V.heap.size, 1, none⟩ = some (.int .i64 (gl : Int)) ∧ W.cell? ⟨V.heap.size, 2, none⟩ = some (.int .i64 (ps : Int)) ∧ W.cell? ⟨V.heap.size, 3, none⟩ = some (.slice (some ⟨g, o, none⟩) n c))
    (first | exact SD.out | exact SE.out | exact S3.out)
    (first
      | (go_at_call 59; refine (doers5 _).mono ?_; rintro x w' ⟨rfl, hw'⟩; obtain rfl := hw'.symm)
      | (go_at_call 86; (with_reducible_and_instances (refine HD.mono ?_)); intro x w3 hx; obtain ⟨q, rfl, hq, KQ, M3, X3⟩ := HDP.out _ _ hx; have S3 : Hid (w3.cell? ⟨V.heap.size, 0, none⟩ = some (.int .i64 2) ∧ w3.cell? ⟨V.heap.size, 1, none⟩ = some (.int .i64 (gl : Int)) ∧ w3.cell? ⟨V.heap.size, 2, none⟩ = some (.int .i64 (ps : Int)) ∧ w3.cell? ⟨V.heap.size, 3, none⟩ = some (.slice (some ⟨g, o, none⟩) n c)) := (show Hid _ from ⟨X3.out.cell 0, X3.out.cell 1, X3.out.cell 2, X3.out.cell 3⟩); clear hx HD HDP))
  clear SD SE hix
  obtain ⟨⟨F3, N3, hF3⟩, C3, -⟩ := M3.out
  obtain ⟨S1, hS1⟩ := N3.ptr
  have HS2 : Hid (∀ W, Below w3.heap.size w3 W → W.cell? ⟨B, 1, none⟩ = some (.pointer (some ⟨S1, 0, none⟩)) ∧ W.cell? ⟨V.heap.size, 1, none⟩ = some (.int .i64 (gl : Int))) := (show Hid _ from fun W hW => ⟨(hW.cell (p := ⟨B, 1, none⟩) (Nat.lt_of_lt_of_le HBF.out C3.size)).trans hS1, (X3.out.later hW).cell 1⟩)
  have HT : Hid (∀ W, Below w3.heap.size w3 W → Calls Tryz.prog 60 #[.pointer (some ⟨S1, 0, none⟩), .int .i64 (gl : Int)] W fun x w' => x = .returned (.int .i64 ((s'.look (gl : Int)).tail : Nat)) ∧ Below W.heap.size W w') := (show Hid _ from fun W hW => (N3.later hW).tailC S1 (HS2.out W hW).1 (gl : Int) (by omega) (by omega))
  have HE : Hid (∀ W, Below w3.heap.size w3 W → Calls Tryz.prog 61 #[.pointer (some ⟨S1, 0, none⟩), .int .i64 (gl : Int)] W fun x w' => x = .returned (.bool (s'.look (gl : Int)).sealed) ∧ Below W.heap.size W w') := (show Hid _ from fun W hW => (N3.later hW).sealedC S1 (HS2.out W hW).1 (gl : Int) (by omega) (by omega))
  have htl := look_small N3.ok (gl : Int)
  have HM3 : Hid (∀ W, Below w3.heap.size w3 W → NMoved F B s' w W) := (show Hid _ from fun W hW => M3.out.post hW)
  clear N3 hF3 C3 hS1 M3 HN HDO
  generalize (s'.look (gl : Int)).tail = tl at *
  generalize (s'.look (gl : Int)).sealed = sl at *
  have BD : Hid (Below w3.heap.size w3 w3.drew) := (show Hid _ from (Below.refl _ _).drew)
  go_wp2_with fail
  go_region_held3 (fun W => W.cell? ⟨B, 1, none⟩ = some (.pointer (some ⟨S1, 0, none⟩)) ∧ W.cell? ⟨V.heap.size, 1, none⟩ = some (.int .i64 (gl : Int)))
    (first | exact HS2.out _ BD.out | exact HS2.out _ D4.out | exact HS2.out _ D5.out | exact HS2.out _ D6.out)
    (first
      | (go_at_call 60; (with_reducible_and_instances (refine (HT.out w3.drew BD.out).mono ?_)); rintro x w4 ⟨rfl, b4⟩; have D4 : Hid (Below w3.heap.size w3 w4) := (show Hid _ from BD.out.trans (b4.mono BD.out.size)); clear b4)
      | (go_at_call 61; (with_reducible_and_instances (refine (HE.out w3.drew BD.out).mono ?_)); rintro x w4 ⟨rfl, b4⟩; have D4 : Hid (Below w3.heap.size w3 w4) := (show Hid _ from BD.out.trans (b4.mono BD.out.size)); clear b4)
      | (go_at_call 60; (with_reducible_and_instances (refine (HT.out w4 D4.out).mono ?_)); rintro x w5 ⟨rfl, b5⟩; have D5 : Hid (Below w3.heap.size w3 w5) := (show Hid _ from D4.out.trans (b5.mono D4.out.size)); clear b5)
      | (go_at_call 61; (with_reducible_and_instances (refine (HE.out w4 D4.out).mono ?_)); rintro x w5 ⟨rfl, b5⟩; have D5 : Hid (Below w3.heap.size w3 w5) := (show Hid _ from D4.out.trans (b5.mono D4.out.size)); clear b5)
      | (go_at_call 58; (with_reducible_and_instances (refine (tell_at ee tl sl q.ad q.len q.cap dl w5 he htl hq (part_dl KQ.out D5.out)).mono ?_)); rintro x w6 ⟨r, rfl, e6, k6, l6, b6⟩; have D6 : Hid (Below w3.heap.size w3 w6) := (show Hid _ from D5.out.trans (b6.mono D5.out.size)); clear b6))
  all_goals go_wp2
  all_goals go_ret
  all_goals exact ⟨r, rfl, e6.out, k6.out, l6.out, HM3.out _ D6.out⟩
end Go.Proofs.YtjldflfoncfndaaGreat
namespace Go.Proofs.YtjldflfoncfndaaGreat
open Go.RowKit Go.Shelf Crcm
variable {w w' W : World} {F : List Nat} {B : Nat} {s : SSt}
set_option maxRecDepth 100000 in
set_option maxHeartbeats 8000000 in
theorem ask_5 (h : NUp w F B s) (ad : Option Addr) (len cap : Nat) (l : List Nat) (hp : Part.ok w ⟨ad, len, cap, l⟩) (hlc : len ≤ cap) (hm : len ≤ 1000000000000000) (hu : unpackN l 1 9 = true) (hin : reqIn (bodyAt l 0) = true) (hk : reqK (bodyAt l 0) = 5)
    (s' : SSt) (ee : Nat) (dl : List Nat) (he : ee ≤ 255) (he8 : ee ≠ 8) (hdl : dl.length ≤ 65504)
    (hdo : ∀ (W : World) (g o n c : Nat), NUp W F B s → Part.ok W ⟨some ⟨g, o, none⟩, n, c, (bodyAt l 0).drop 9⟩ → Calls Tryz.prog 89 #[.pointer (some ⟨B, 0, none⟩), reqV 5 (reqL (bodyAt l 0) : Nat) (reqP (bodyAt l 0) : Nat) (some ⟨g, o, none⟩) n c] W (DPost F B s' dl (ee : Int) W)) :
    Calls Tryz.prog 29 #[.pointer (some ⟨B, 0, none⟩), .slice ad len cap] w (APost F B s' (frameBs 2 (replyN ee (s'.look (reqL (bodyAt l 0) : Nat)).tail (s'.look (reqL (bodyAt l 0) : Nat)).sealed.toNat dl)) w) := by
  have HU := nup_up h
  have HG := getReq_yes ad len cap l w hp hlc hm hu hin
  have hgl : reqL (bodyAt l 0) < 281474976710656 := by
    unfold reqIn at hin
    have := (reqMay_lim hin).2.1
    exact this
  rw [hk] at HG
  obtain ⟨gl, hgl0⟩ : ∃ gl, gl = reqL (bodyAt l 0) := ⟨_, rfl⟩
  obtain ⟨ps, hps0⟩ : ∃ ps, ps = reqP (bodyAt l 0) := ⟨_, rfl⟩
  rw [← hgl0, ← hps0] at HG hdo
  rw [← hgl0] at hgl ⊢
  have HLT : Hid (∀ g ∈ F, g < w.heap.size) := (show Hid _ from (by obtain ⟨_, _, _, _, _, _, _, _, _, _, _, _, _, _, _, _, hl⟩ := h; exact hl))
  have HBF : Hid (B < w.heap.size) := (show Hid _ from (by obtain ⟨_, _, _, _, _, _, _, _, _, _, k2, _⟩ := h; exact k2.lt))
  have HN : Hid (NUp w F B s) := h
  have HDO : Hid (∀ (W : World) (g o n c : Nat), NUp W F B s → Part.ok W ⟨some ⟨g, o, none⟩, n, c, (bodyAt l 0).drop 9⟩ → Calls Tryz.prog 89 #[.pointer (some ⟨B, 0, none⟩), reqV 5 (gl : Int) (ps : Int) (some ⟨g, o, none⟩) n c] W (DPost F B s' dl (ee : Int) W)) := hdo
  clear h hp hlc hm hu hin hk hgl0 hps0 hdo
  have he8' : ((ee : Int) == 8) = false := by simp; omega
  unfold reqV at HG
  go_enter Tryz.func29, Tryz.ntmps29
  go_wp2_with (first
    | (go_at_call 31; refine HU.mono ?_; rintro x w' ⟨rfl, hw'⟩; obtain rfl := hw'.symm)
    | (go_at_call 15; refine HG.mono ?_; rintro x V ⟨g, o, n, c, rfl, kp, hnc, hg, hb⟩; have BV : Hid (Below w.heap.size w V) := hb; have KP : Hid (Part.ok V ⟨some ⟨g, o, none⟩, n, c, (bodyAt l 0).drop 9⟩) := kp; clear hb kp hg HG HU))
  obtain ⟨W1, hW1⟩ : ∃ W1, (V.alloc (.cells #[.int .i64 5, .int .i64 (gl : Int), .int .i64 (ps : Int), .slice (some ⟨g, o, none⟩) n c] 27)) = W1 := ⟨_, rfl⟩
  have B1 : Hid (Below V.heap.size V W1) := (show Hid _ from (by rw [← hW1]; exact (Below.refl _ V).alloc (Nat.le_refl _) _))
  have X1 : Hid (Blk W1 V.heap.size #[.int .i64 5, .int .i64 (gl : Int), .int .i64 (ps : Int), .slice (some ⟨g, o, none⟩) n c] 27) := (show Hid _ from (by rw [← hW1]; exact heap_alloc_last V _))
  rw [hW1]
  clear hW1
  obtain ⟨W2, hW2⟩ : ∃ W2, (W1.alloc (.cells #[.nilFunc, .func (.func 85) #[] #[], .func (.func 86) #[] #[], .func (.func 87) #[] #[], .func (.func 88) #[] #[], .func (.func 89) #[] #[], .func (.func 90) #[] #[]] 103)).drew = W2 := ⟨_, rfl⟩
  have B2 : Hid (Below W1.heap.size W1 W2) := (show Hid _ from (by rw [← hW2]; exact ((Below.refl _ W1).alloc (Nat.le_refl _) _).drew))
  have X2 : Hid (Blk W2 V.heap.size #[.int .i64 5, .int .i64 (gl : Int), .int .i64 (ps : Int), .slice (some ⟨g, o, none⟩) n c] 27) := (show Hid _ from X1.out.later B2.out)
  have BW : Hid (Below w.heap.size w W2) := (show Hid _ from (BV.out.trans (B1.out.mono BV.out.size)).trans (B2.out.mono (Nat.le_trans BV.out.size B1.out.size)))
  have N2 : Hid (NUp W2 F B s) := (show Hid _ from HN.out.later BW.out)
  have HD := HDO.out W2 g o n c N2.out ((KP.out.later B1.out).later B2.out)
  unfold reqV at HD
  have SD : Hid (W1.drew.cell? ⟨V.heap.size, 0, none⟩ = some (.int .i64 5) ∧ W1.drew.cell? ⟨V.heap.size, 1, none⟩ = some (.int .i64 (gl : Int)) ∧ W1.drew.cell? ⟨V.heap.size, 2, none⟩ = some (.int .i64 (ps : Int)) ∧ W1.drew.cell? ⟨V.heap.size, 3, none⟩ = some (.slice (some ⟨g, o, none⟩) n c)) := (show Hid _ from (by have q : Blk W1.drew V.heap.size _ _ := X1.out.later (Below.refl _ _).drew; exact ⟨q.cell 0, q.cell 1, q.cell 2, q.cell 3⟩))
  have SE : Hid (W2.cell? ⟨V.heap.size, 0, none⟩ = some (.int .i64 5) ∧ W2.cell? ⟨V.heap.size, 1, none⟩ = some (.int .i64 (gl : Int)) ∧ W2.cell? ⟨V.heap.size, 2, none⟩ = some (.int .i64 (ps : Int)) ∧ W2.cell? ⟨V.heap.size, 3, none⟩ = some (.slice (some ⟨g, o, none⟩) n c)) := (show Hid _ from ⟨X2.out.cell 0, X2.out.cell 1, X2.out.cell 2, X2.out.cell 3⟩)
  have HVW : Hid (w.heap.size ≤ V.heap.size) := (show Hid _ from BV.out.size)
  have HDP : Hid (∀ x w3, DPost F B s' dl (ee : Int) W2 x w3 → ∃ q : Part, x = .returned (.tuple #[.slice q.ad q.len q.cap, .int .i64 (ee : Int)]) ∧ q.len ≤ 65504 ∧ Hid (q.l = dl ∧ q.ok w3) ∧ Hid (NMoved F B s' w w3) ∧ Hid (Blk w3 V.heap.size #[.int .i64 5, .int .i64 (gl : Int), .int .i64 (ps : Int), .slice (some ⟨g, o, none⟩) n c] 27)) := (show Hid _ from fun x w3 hx => by
    obtain ⟨q, rfl, e1, k1, m1⟩ := hx
    exact ⟨q, rfl, by rw [← k1.1, e1]; exact hdl, (show Hid _ from ⟨e1, k1⟩), (show Hid _ from m1.pre BW.out HBF.out), (show Hid _ from chg_blk X2.out m1.2.1 (fun g hg => Nat.lt_of_lt_of_le (HLT.out g hg) HVW.out))⟩)
  have hix := fun W => (doers5_at .nilFunc (.func (.func 85) #[] #[]) (.func (.func 86) #[] #[]) (.func (.func 87) #[] #[]) (.func (.func 88) #[] #[]) (.func (.func 89) #[] #[]) (.func (.func 90) #[] #[]) W).2.2.2.2.1
  go_region_held3 (fun W => W.cell? ⟨V.heap.size, 0, none⟩ = some (.int .i64 5) ∧ W.cell? ⟨V.heap.size, 1, none⟩ = some (.int .i64 (gl : Int)) ∧ W.cell? ⟨V.heap.size, 2, none⟩ = some (.int .i64 (ps : Int)) ∧ W.cell? ⟨V.heap.size, 3, none⟩ = some (.slice (some ⟨g, o, none⟩) n c))
    (first | exact SD.out | exact SE.out | exact S3.out)
    (first
      | (go_at_call 59; refine (doers5 _).mono ?_; rintro x w' ⟨rfl, hw'⟩; obtain rfl := hw'.symm)
      | (go_at_call 89; (with_reducible_and_instances (refine HD.mono ?_)); intro x w3 hx; obtain ⟨q, rfl, hq, KQ, M3, X3⟩ := HDP.out _ _ hx; have S3 : Hid (w3.cell? ⟨V.heap.size, 0, none⟩ = some (.int .i64 5) ∧ w3.cell? ⟨V.heap.size, 1, none⟩ = some (.int .i64 (gl : Int)) ∧ w3.cell? ⟨V.heap.size, 2, none⟩ = some (.int .i64 (ps : Int)) ∧ w3.cell? ⟨V.heap.size, 3, none⟩ = some (.slice (some ⟨g, o, none⟩) n c)) := (show Hid _ from ⟨X3.out.cell 0, X3.out.cell 1, X3.out.cell 2, X3.out.cell 3⟩); clear hx HD HDP))
  clear SD SE hix
  obtain ⟨⟨F3, N3, hF3⟩, C3, -⟩ := M3.out
  obtain ⟨S1, hS1⟩ := N3.ptr
  have HS2 : Hid (∀ W, Below w3.heap.size w3 W → W.cell? ⟨B, 1, none⟩ = some (.pointer (some ⟨S1, 0, none⟩)) ∧ W.cell? ⟨V.heap.size, 1, none⟩ = some (.int .i64 (gl : Int))) := (show Hid _ from fun W hW => ⟨(hW.cell (p := ⟨B, 1, none⟩) (Nat.lt_of_lt_of_le HBF.out C3.size)).trans hS1, (X3.out.later hW).cell 1⟩)
  have HT : Hid (∀ W, Below w3.heap.size w3 W → Calls Tryz.prog 60 #[.pointer (some ⟨S1, 0, none⟩), .int .i64 (gl : Int)] W fun x w' => x = .returned (.int .i64 ((s'.look (gl : Int)).tail : Nat)) ∧ Below W.heap.size W w') := (show Hid _ from fun W hW => (N3.later hW).tailC S1 (HS2.out W hW).1 (gl : Int) (by omega) (by omega))
  have HE : Hid (∀ W, Below w3.heap.size w3 W → Calls Tryz.prog 61 #[.pointer (some ⟨S1, 0, none⟩), .int .i64 (gl : Int)] W fun x w' => x = .returned (.bool (s'.look (gl : Int)).sealed) ∧ Below W.heap.size W w') := (show Hid _ from fun W hW => (N3.later hW).sealedC S1 (HS2.out W hW).1 (gl : Int) (by omega) (by omega))
  have htl := look_small N3.ok (gl : Int)
  have HM3 : Hid (∀ W, Below w3.heap.size w3 W → NMoved F B s' w W) := (show Hid _ from fun W hW => M3.out.post hW)
  clear N3 hF3 C3 hS1 M3 HN HDO
  generalize (s'.look (gl : Int)).tail = tl at *
  generalize (s'.look (gl : Int)).sealed = sl at *
  have BD : Hid (Below w3.heap.size w3 w3.drew) := (show Hid _ from (Below.refl _ _).drew)
  go_wp2_with fail
  go_region_held3 (fun W => W.cell? ⟨B, 1, none⟩ = some (.pointer (some ⟨S1, 0, none⟩)) ∧ W.cell? ⟨V.heap.size, 1, none⟩ = some (.int .i64 (gl : Int)))
    (first | exact HS2.out _ BD.out | exact HS2.out _ D4.out | exact HS2.out _ D5.out | exact HS2.out _ D6.out)
    (first
      | (go_at_call 60; (with_reducible_and_instances (refine (HT.out w3.drew BD.out).mono ?_)); rintro x w4 ⟨rfl, b4⟩; have D4 : Hid (Below w3.heap.size w3 w4) := (show Hid _ from BD.out.trans (b4.mono BD.out.size)); clear b4)
      | (go_at_call 61; (with_reducible_and_instances (refine (HE.out w3.drew BD.out).mono ?_)); rintro x w4 ⟨rfl, b4⟩; have D4 : Hid (Below w3.heap.size w3 w4) := (show Hid _ from BD.out.trans (b4.mono BD.out.size)); clear b4)
      | (go_at_call 60; (with_reducible_and_instances (refine (HT.out w4 D4.out).mono ?_)); rintro x w5 ⟨rfl, b5⟩; have D5 : Hid (Below w3.heap.size w3 w5) := (show Hid _ from D4.out.trans (b5.mono D4.out.size)); clear b5)
      | (go_at_call 61; (with_reducible_and_instances (refine (HE.out w4 D4.out).mono ?_)); rintro x w5 ⟨rfl, b5⟩; have D5 : Hid (Below w3.heap.size w3 w5) := (show Hid _ from D4.out.trans (b5.mono D4.out.size)); clear b5)
      | (go_at_call 58; (with_reducible_and_instances (refine (tell_at ee tl sl q.ad q.len q.cap dl w5 he htl hq (part_dl KQ.out D5.out)).mono ?_)); rintro x w6 ⟨r, rfl, e6, k6, l6, b6⟩; have D6 : Hid (Below w3.heap.size w3 w6) := (show Hid _ from D5.out.trans (b6.mono D5.out.size)); clear b6))
  all_goals go_wp2
  all_goals go_ret
  all_goals exact ⟨r, rfl, e6.out, k6.out, l6.out, HM3.out _ D6.out⟩
end Go.Proofs.YtjldflfoncfndaaGreat
namespace Go.Proofs.YtjldflfoncfndaaGreat
open Go.RowKit Go.Shelf Crcm
variable {w w' W : World} {F : List Nat} {B : Nat} {s : SSt}
set_option maxRecDepth 100000 in
set_option maxHeartbeats 8000000 in
theorem ask_6 (h : NUp w F B s) (ad : Option Addr) (len cap : Nat) (l : List Nat) (hp : Part.ok w ⟨ad, len, cap, l⟩) (hlc : len ≤ cap) (hm : len ≤ 1000000000000000) (hu : unpackN l 1 9 = true) (hin : reqIn (bodyAt l 0) = true) (hk : reqK (bodyAt l 0) = 6)
    (s' : SSt) (ee : Nat) (dl : List Nat) (he : ee ≤ 255) (he8 : ee ≠ 8) (hdl : dl.length ≤ 65504)
    (hdo : ∀ (W : World) (g o n c : Nat), NUp W F B s → Part.ok W ⟨some ⟨g, o, none⟩, n, c, (bodyAt l 0).drop 9⟩ → Calls Tryz.prog 90 #[.pointer (some ⟨B, 0, none⟩), reqV 6 (reqL (bodyAt l 0) : Nat) (reqP (bodyAt l 0) : Nat) (some ⟨g, o, none⟩) n c] W (DPost F B s' dl (ee : Int) W)) :
    Calls Tryz.prog 29 #[.pointer (some ⟨B, 0, none⟩), .slice ad len cap] w (APost F B s' (frameBs 2 (replyN ee (s'.look (reqL (bodyAt l 0) : Nat)).tail (s'.look (reqL (bodyAt l 0) : Nat)).sealed.toNat dl)) w) := by
  have HU := nup_up h
  have HG := getReq_yes ad len cap l w hp hlc hm hu hin
  have hgl : reqL (bodyAt l 0) < 281474976710656 := by
    unfold reqIn at hin
    have := (reqMay_lim hin).2.1
    exact this
  rw [hk] at HG
  obtain ⟨gl, hgl0⟩ : ∃ gl, gl = reqL (bodyAt l 0) := ⟨_, rfl⟩
  obtain ⟨ps, hps0⟩ : ∃ ps, ps = reqP (bodyAt l 0) := ⟨_, rfl⟩
  rw [← hgl0, ← hps0] at HG hdo
  rw [← hgl0] at hgl ⊢
  have HLT : Hid (∀ g ∈ F, g < w.heap.size) := (show Hid _ from (by obtain ⟨_, _, _, _, _, _, _, _, _, _, _, _, _, _, _, _, hl⟩ := h; exact hl))
  have HBF : Hid (B < w.heap.size) := (show Hid _ from (by obtain ⟨_, _, _, _, _, _, _, _, _, _, k2, _⟩ := h; exact k2.lt))
  have HN : Hid (NUp w F B s) := h
  have HDO : Hid (∀ (W : World) (g o n c : Nat), NUp W F B s → Part.ok W ⟨some ⟨g, o, none⟩, n, c, (bodyAt l 0).drop 9⟩ → Calls Tryz.prog 90 #[.pointer (some ⟨B, 0, none⟩), reqV 6 (gl : Int) (ps : Int) (some ⟨g, o, none⟩) n c] W (DPost F B s' dl (ee : Int) W)) := hdo
  clear h hp hlc hm hu hin hk hgl0 hps0 hdo
  have he8' : ((ee : Int) == 8) = false := by simp; omega
  unfold reqV at HG
  go_enter Tryz.func29, Tryz.ntmps29
  go_wp2_with (first
    | (go_at_call 31; refine HU.mono ?_; rintro x w' ⟨rfl, hw'⟩; obtain rfl := hw'.symm)
    | (go_at_call 15; refine HG.mono ?_; rintro x V ⟨g, o, n, c, rfl, kp, hnc, hg, hb⟩; have BV : Hid (Below w.heap.size w V) := hb; have KP : Hid (Part.ok V ⟨some ⟨g, o, none⟩, n, c, (bodyAt l 0).drop 9⟩) := kp; clear hb kp hg HG HU))
  obtain ⟨W1, hW1⟩ : ∃ W1, (V.alloc (.cells #[.int .i64 6, .int .i64 (gl : Int), .int .i64 (ps : Int), .slice (some ⟨g, o, none⟩) n c] 27)) = W1 := ⟨_, rfl⟩
  have B1 : Hid (Below V.heap.size V W1) := (show Hid _ from (by rw [← hW1]; exact (Below.refl _ V).alloc (Nat.le_refl _) _))
  have X1 : Hid (Blk W1 V.heap.size #[.int .i64 6, .int .i64 (gl : Int), .int .i64 (ps : Int), .slice (some ⟨g, o, none⟩) n c] 27) := (show Hid _ from (by rw [← hW1]; exact heap_alloc_last V _))
  rw [hW1]
  clear hW1
  obtain ⟨W2, hW2⟩ : ∃ W2, (W1.alloc (.cells #[.nilFunc, .func (.func 85) #[] #[], .func (.func 86) #[] #[], .func (.func 87) #[] #[], .func (.func 88) #[] #[], .func (.func 89) #[] #[], .func (.func 90) #[] #[]] 103)).drew = W2 := ⟨_, rfl⟩
  have B2 : Hid (Below W1.heap.size W1 W2) := (show Hid _ from (by rw [← hW2]; exact ((Below.refl _ W1).alloc (Nat.le_refl _) _).drew))
  have X2 : Hid (Blk W2 V.heap.size #[.int .i64 6, .int .i64 (gl : Int), .int .i64 (ps : Int), .slice (some ⟨g, o, none⟩) n c] 27) := (show Hid _ from X1.out.later B2.out)
  have BW : Hid (Below w.heap.size w W2) := (show Hid _ from (BV.out.trans (B1.out.mono BV.out.size)).trans (B2.out.mono (Nat.le_trans BV.out.size B1.out.size)))
  have N2 : Hid (NUp W2 F B s) := (show Hid _ from HN.out.later BW.out)
  have HD := HDO.out W2 g o n c N2.out ((KP.out.later B1.out).later B2.out)
  unfold reqV at HD
  have SD : Hid (W1.drew.cell? ⟨V.heap.size, 0, none⟩ = some (.int .i64 6) ∧ W1.drew.cell? ⟨V.heap.size, 1, none⟩ = some (.int .i64 (gl : Int)) ∧ W1.drew.cell? ⟨V.heap.size, 2, none⟩ = some (.int .i64 (ps : Int)) ∧ W1.drew.cell? ⟨V.heap.size, 3, none⟩ = some (.slice (some ⟨g, o, none⟩) n c)) := (show Hid _ from (by have q : Blk W1.drew V.heap.size _ _ := X1.out.later (Below.refl _ _).drew; exact ⟨q.cell 0, q.cell 1, q.cell 2, q.cell 3⟩))
  have SE : Hid (W2.cell? ⟨V.heap.size, 0, none⟩ = some (.int .i64 6) ∧ W2.cell? ⟨V.heap.size, 1, none⟩ = some (.int .i64 (gl : Int)) ∧ W2.cell? ⟨V.heap.size, 2, none⟩ = some (.int .i64 (ps : Int)) ∧ W2.cell? ⟨V.heap.size, 3, none⟩ = some (.slice (some ⟨g, o, none⟩) n c)) := (show Hid _ from ⟨X2.out.cell 0, X2.out.cell 1, X2.out.cell 2, X2.out.cell 3⟩)
  have HVW : Hid (w.heap.size ≤ V.heap.size) := (show Hid _ from BV.out.size)
  have HDP : Hid (∀ x w3, DPost F B s' dl (ee : Int) W2 x w3 → ∃ q : Part, x = .returned (.tuple #[.slice q.ad q.len q.cap, .int .i64 (ee : Int)]) ∧ q.len ≤ 65504 ∧ Hid (q.l = dl ∧ q.ok w3) ∧ Hid (NMoved F B s' w w3) ∧ Hid (Blk w3 V.heap.size #[.int .i64 6, .int .i64 (gl : Int), .int .i64 (ps : Int), .slice (some ⟨g, o, none⟩) n c] 27)) := (show Hid _ from fun x w3 hx => by
    obtain ⟨q, rfl, e1, k1, m1⟩ := hx
    exact ⟨q, rfl, by rw [← k1.1, e1]; exact hdl, (show Hid _ from ⟨e1, k1⟩), (show Hid _ from m1.pre BW.out HBF.out), (show Hid _ from chg_blk X2.out m1.2.1 (fun g hg => Nat.lt_of_lt_of_le (HLT.out g hg) HVW.out))⟩)
  have hix := fun W => (doers5_at .nilFunc (.func (.func 85) #[] #[]) (.func (.func 86) #[] #[]) (.func (.func 87) #[] #[]) (.func (.func 88) #[] #[]) (.func (.func 89) #[] #[]) (.func (.func 90) #[] #[]) W).2.2.2.2.2
  go_region_held3 (fun W => W.cell? ⟨V.heap.size, 0, none⟩ = some (.int .i64 6) ∧ W.cell? ⟨V.heap.size, 1, none⟩ = some (.int .i64 (gl : Int)) ∧ W.cell? ⟨V.heap.size, 2, none⟩ = some (.int .i64 (ps : Int)) ∧ W.cell? ⟨V.heap.size, 3, none⟩ = some (.slice (some ⟨g, o, none⟩) n c))
    (first | exact SD.out | exact SE.out | exact S3.out)
    (first
      | (go_at_call 59; refine (doers5 _).mono ?_; rintro x w' ⟨rfl, hw'⟩; obtain rfl := hw'.symm)
      | (go_at_call 90; (with_reducible_and_instances (refine HD.mono ?_)); intro x w3 hx; obtain ⟨q, rfl, hq, KQ, M3, X3⟩ := HDP.out _ _ hx; have S3 : Hid (w3.cell? ⟨V.heap.size, 0, none⟩ = some (.int .i64 6) ∧ w3.cell? ⟨V.heap.size, 1, none⟩ = some (.int .i64 (gl : Int)) ∧ w3.cell? ⟨V.heap.size, 2, none⟩ = some (.int .i64 (ps : Int)) ∧ w3.cell? ⟨V.heap.size, 3, none⟩ = some (.slice (some ⟨g, o, none⟩) n c)) := (show Hid _ from ⟨X3.out.cell 0, X3.out.cell 1, X3.out.cell 2, X3.out.cell 3⟩); clear hx HD HDP))
  clear SD SE hix
  obtain ⟨⟨F3, N3, hF3⟩, C3, -⟩ := M3.out
  obtain ⟨S1, hS1⟩ := N3.ptr
  have HS2 : Hid (∀ W, Below w3.heap.size w3 W → W.cell? ⟨B, 1, none⟩ = some (.pointer (some ⟨S1, 0, none⟩)) ∧ W.cell? ⟨V.heap.size, 1, none⟩ = some (.int .i64 (gl : Int))) := (show Hid _ from fun W hW => ⟨(hW.cell (p := ⟨B, 1, none⟩) (Nat.lt_of_lt_of_le HBF.out C3.size)).trans hS1, (X3.out.later hW).cell 1⟩)
  have HT : Hid (∀ W, Below w3.heap.size w3 W → Calls Tryz.prog 60 #[.pointer (some ⟨S1, 0, none⟩), .int .i64 (gl : Int)] W fun x w' => x = .returned (.int .i64 ((s'.look (gl : Int)).tail : Nat)) ∧ Below W.heap.size W w') := (show Hid _ from fun W hW => (N3.later hW).tailC S1 (HS2.out W hW).1 (gl : Int) (by omega) (by omega))
  have HE : Hid (∀ W, Below w3.heap.size w3 W → Calls Tryz.prog 61 #[.pointer (some ⟨S1, 0, none⟩), .int .i64 (gl : Int)] W fun x w' => x = .returned (.bool (s'.look (gl : Int)).sealed) ∧ Below W.heap.size W w') := (show Hid _ from fun W hW => (N3.later hW).sealedC S1 (HS2.out W hW).1 (gl : Int) (by omega) (by omega))
  have htl := look_small N3.ok (gl : Int)
  have HM3 : Hid (∀ W, Below w3.heap.size w3 W → NMoved F B s' w W) := (show Hid _ from fun W hW => M3.out.post hW)
  clear N3 hF3 C3 hS1 M3 HN HDO
  generalize (s'.look (gl : Int)).tail = tl at *
  generalize (s'.look (gl : Int)).sealed = sl at *
  have BD : Hid (Below w3.heap.size w3 w3.drew) := (show Hid _ from (Below.refl _ _).drew)
  go_wp2_with fail
  go_region_held3 (fun W => W.cell? ⟨B, 1, none⟩ = some (.pointer (some ⟨S1, 0, none⟩)) ∧ W.cell? ⟨V.heap.size, 1, none⟩ = some (.int .i64 (gl : Int)))
    (first | exact HS2.out _ BD.out | exact HS2.out _ D4.out | exact HS2.out _ D5.out | exact HS2.out _ D6.out)
    (first
      | (go_at_call 60; (with_reducible_and_instances (refine (HT.out w3.drew BD.out).mono ?_)); rintro x w4 ⟨rfl, b4⟩; have D4 : Hid (Below w3.heap.size w3 w4) := (show Hid _ from BD.out.trans (b4.mono BD.out.size)); clear b4)
      | (go_at_call 61; (with_reducible_and_instances (refine (HE.out w3.drew BD.out).mono ?_)); rintro x w4 ⟨rfl, b4⟩; have D4 : Hid (Below w3.heap.size w3 w4) := (show Hid _ from BD.out.trans (b4.mono BD.out.size)); clear b4)
      | (go_at_call 60; (with_reducible_and_instances (refine (HT.out w4 D4.out).mono ?_)); rintro x w5 ⟨rfl, b5⟩; have D5 : Hid (Below w3.heap.size w3 w5) := (show Hid _ from D4.out.trans (b5.mono D4.out.size)); clear b5)
      | (go_at_call 61; (with_reducible_and_instances (refine (HE.out w4 D4.out).mono ?_)); rintro x w5 ⟨rfl, b5⟩; have D5 : Hid (Below w3.heap.size w3 w5) := (show Hid _ from D4.out.trans (b5.mono D4.out.size)); clear b5)
      | (go_at_call 58; (with_reducible_and_instances (refine (tell_at ee tl sl q.ad q.len q.cap dl w5 he htl hq (part_dl KQ.out D5.out)).mono ?_)); rintro x w6 ⟨r, rfl, e6, k6, l6, b6⟩; have D6 : Hid (Below w3.heap.size w3 w6) := (show Hid _ from D5.out.trans (b6.mono D5.out.size)); clear b6))
  all_goals go_wp2
  all_goals go_ret
  all_goals exact ⟨r, rfl, e6.out, k6.out, l6.out, HM3.out _ D6.out⟩
end Go.Proofs.YtjldflfoncfndaaGreat
namespace Go.Proofs.YtjldflfoncfndaaGreat
open Go.RowKit Go.Shelf Crcm
variable {w w' W : World} {F : List Nat} {B : Nat} {s : SSt}

theorem getReq_no (ad : Option Addr) (len cap : Nat) (l : List Nat) (w : World) (hp : Part.ok w ⟨ad, len, cap, l⟩) (hlc : len ≤ cap) (hm : len ≤ 1000000000000000) (h : ¬ (unpackN l 1 9 = true ∧ reqIn (bodyAt l 0) = true)) :
    Calls Tryz.prog 15 #[.slice ad len cap] w fun e w' => e = .returned (.tuple #[reqV 0 0 0 none 0 0, .int .i64 22]) ∧ Below w.heap.size w w' := by
  cases hu : unpackN l 1 9 with
  | false => exact getRequest_no1 ad len cap l w hp hlc hm hu
  | true =>
    have hin : reqIn (bodyAt l 0) = false := by
      cases hi : reqIn (bodyAt l 0) with
      | false => rfl
      | true => exact absurd ⟨hu, hi⟩ h
    refine (getRequest_frame ad len cap l w false hp hlc hm hu (fun ad c W => ?_)).mono ?_
    · have q := qmay_any (reqK (bodyAt l 0) : Nat) (reqL (bodyAt l 0) : Nat) (reqP (bodyAt l 0) : Nat) ad ((bodyAt l 0).length - 9) c W
      unfold reqIn at hin
      rw [hin] at q
      exact q
    · rintro e w' ⟨h1 | h1, hb⟩
      · exact ⟨h1.2, hb⟩
      · cases h1.1
set_option maxRecDepth 100000 in
set_option maxHeartbeats 4000000 in
theorem ask_form (h : NUp w F B s) (ad : Option Addr) (len cap : Nat) (l : List Nat) (hp : Part.ok w ⟨ad, len, cap, l⟩) (hlc : len ≤ cap) (hm : len ≤ 1000000000000000) (hno : ¬ (unpackN l 1 9 = true ∧ reqIn (bodyAt l 0) = true)) :
    Calls Tryz.prog 29 #[.pointer (some ⟨B, 0, none⟩), .slice ad len cap] w (APost F B s (frameBs 2 (replyN 22 0 0 [])) w) := by
  have HU := nup_up h
  have HG := getReq_no ad len cap l w hp hlc hm hno
  have HN : Hid (NUp w F B s) := h
  clear h hp hlc hm hno
  unfold reqV at HG
  have HT : Hid (∀ W : World, Calls Tryz.prog 58 #[.agg #[.int .i64 22, .int .i64 0, .bool false, .slice none 0 0]] W fun x w' => ∃ p : Part, x = .returned (.slice p.ad p.len p.cap) ∧ Hid (p.l = frameBs 2 (replyN 22 0 0 [])) ∧ Hid (p.ok w') ∧ Hid (p.len ≤ p.cap) ∧ Below W.heap.size W w') := (show Hid _ from fun W => tell_at 22 0 false none 0 0 [] W (by omega) (by omega) (by omega) ⟨rfl, fun _ => ⟨rfl, rfl⟩, fun _ h => (by cases h), Or.inl rfl⟩)
  go_enter Tryz.func29, Tryz.ntmps29
  go_wp2_with (first
    | (go_at_call 31; refine HU.mono ?_; rintro x w' ⟨rfl, hw'⟩; obtain rfl := hw'.symm)
    | (go_at_call 15; refine HG.mono ?_; rintro x V ⟨rfl, hb⟩; have BV : Hid (Below w.heap.size w (V.alloc (.cells #[.int .i64 0, .int .i64 0, .int .i64 0, .slice none 0 0] 27))) := (show Hid _ from hb.alloc hb.size _); clear hb HG HU)
    | (go_at_call 58; (with_reducible_and_instances (refine (HT.out (V.alloc (.cells #[.int .i64 0, .int .i64 0, .int .i64 0, .slice none 0 0] 27))).mono ?_)); rintro x w2 ⟨q, rfl, e2, k2, l2, b2⟩; have B2 : Hid (Below w.heap.size w w2) := (show Hid _ from BV.out.trans (b2.mono BV.out.size)); clear b2))
  go_ret
  exact ⟨q, rfl, e2.out, k2.out, l2.out, HN.out.moved B2.out⟩
end Go.Proofs.YtjldflfoncfndaaGreat
namespace Go.Proofs.YtjldflfoncfndaaGreat
open Go.RowKit Go.Shelf Crcm
variable {w w' W : World} {F : List Nat} {B : Nat} {s : SSt}

theorem fstE {α β : Type} {x : α × β} {a : α} {b : β} (h : x = (a, b)) : x.1 = a := by subst h; rfl
theorem sndE {α β : Type} {x : α × β} {a : α} {b : β} (h : x = (a, b)) : x.2 = b := by subst h; rfl
theorem t1E {α β γ : Type} {x : α × β × γ} {a : α} {b : β} {c : γ} (h : x = (a, b, c)) : x.1 = a := by subst h; rfl
theorem t2E {α β γ : Type} {x : α × β × γ} {a : α} {b : β} {c : γ} (h : x = (a, b, c)) : x.2.1 = b := by subst h; rfl
theorem t3E {α β γ : Type} {x : α × β × γ} {a : α} {b : β} {c : γ} (h : x = (a, b, c)) : x.2.2 = c := by subst h; rfl
theorem nat_lo (n : Nat) : (-9223372036854775808 : Int) ≤ (n : Int) := by omega
theorem nat_hi {n : Nat} (h : n < 281474976710656) : (n : Int) ≤ 9223372036854775807 := by omega
theorem doN_1 (g p : Int) (d : List Nat) : doN s 1 g p d = ((s.put g p d false).1, [], (s.put g p d false).2) := by unfold doN; simp
theorem doN_2 (g p : Int) (d : List Nat) : doN s 2 g p d = ((s.put g p d true).1, [], (s.put g p d true).2) := by unfold doN; simp
theorem doN_3 (g p : Int) (d : List Nat) : doN s 3 g p d = ((s.seal g).1, [], (s.seal g).2) := by unfold doN; simp
theorem doN_4 (g p : Int) (d : List Nat) : doN s 4 g p d = ((s.get g p).2, (s.get g p).1, s) := by unfold doN; simp
theorem doN_5 (g p : Int) (d : List Nat) : doN s 5 g p d = (0, [], s) := by unfold doN; simp
theorem doN_6 (g p : Int) (d : List Nat) : doN s 6 g p d = ((s.trim g p).1, [], (s.trim g p).2) := by unfold doN; simp
theorem ask_any (h : NUp w F B s) (hg : Good s) (ad : Option Addr) (len cap : Nat) (l : List Nat) (hp : Part.ok w ⟨ad, len, cap, l⟩) (hlc : len ≤ cap) (hm : len ≤ 1000000000000000) :
    Calls Tryz.prog 29 #[.pointer (some ⟨B, 0, none⟩), .slice ad len cap] w (APost F B (askN s l).2 (askN s l).1 w) := by
  by_cases hh : unpackN l 1 9 = true ∧ reqIn (bodyAt l 0) = true
  · obtain ⟨hu, hin⟩ := hh
    have hd := reqIn_data hin
    obtain ⟨g1, g2, g3⟩ := hg.doN (reqK (bodyAt l 0)) (reqL (bodyAt l 0) : Nat) (reqP (bodyAt l 0) : Nat) ((bodyAt l 0).drop 9) hd
    have hfew := few_of hg.clean
    have hin2 := hin
    unfold reqIn at hin2
    obtain ⟨l1, l2, l3, l4⟩ := reqMay_lim hin2
    have hk1 : 1 ≤ reqK (bodyAt l 0) := by
      simp only [reqMay, Bool.and_eq_true, decide_eq_true_eq] at hin2
      omega
    have e : askN s l = (frameBs 2 (replyN (doN s (reqK (bodyAt l 0)) (reqL (bodyAt l 0) : Nat) (reqP (bodyAt l 0) : Nat) ((bodyAt l 0).drop 9)).1.toNat ((doN s (reqK (bodyAt l 0)) (reqL (bodyAt l 0) : Nat) (reqP (bodyAt l 0) : Nat) ((bodyAt l 0).drop 9)).2.2.look (reqL (bodyAt l 0) : Nat)).tail ((doN s (reqK (bodyAt l 0)) (reqL (bodyAt l 0) : Nat) (reqP (bodyAt l 0) : Nat) ((bodyAt l 0).drop 9)).2.2.look (reqL (bodyAt l 0) : Nat)).sealed.toNat (doN s (reqK (bodyAt l 0)) (reqL (bodyAt l 0) : Nat) (reqP (bodyAt l 0) : Nat) ((bodyAt l 0).drop 9)).2.1), (doN s (reqK (bodyAt l 0)) (reqL (bodyAt l 0) : Nat) (reqP (bodyAt l 0) : Nat) ((bodyAt l 0).drop 9)).2.2) := by
      unfold askN
      rw [if_pos ⟨hu, hin⟩]
    rw [fstE e, sndE e]
    clear e
    obtain ⟨zz, hz⟩ : ∃ z : Nat, (doN s (reqK (bodyAt l 0)) (reqL (bodyAt l 0) : Nat) (reqP (bodyAt l 0) : Nat) ((bodyAt l 0).drop 9)).1 = z := ⟨_, (Int.toNat_of_nonneg g1.1).symm⟩
    have z1 : zz ≤ 255 := by have := g1.2.1; rw [hz] at this; omega
    have z2 : zz ≠ 8 := by have := g1.2.2; rw [hz] at this; omega
    have hn : ∀ {W : World} {g o n c : Nat}, Part.ok W ⟨some ⟨g, o, none⟩, n, c, (bodyAt l 0).drop 9⟩ → n ≤ 1000000000000 := fun {W g o n c} h => by
      have : ((bodyAt l 0).drop 9).length = n := h.1
      omega
    rw [hz, Int.toNat_natCast]
    rcases (show reqK (bodyAt l 0) = 1 ∨ reqK (bodyAt l 0) = 2 ∨ reqK (bodyAt l 0) = 3 ∨ reqK (bodyAt l 0) = 4 ∨ reqK (bodyAt l 0) = 5 ∨ reqK (bodyAt l 0) = 6 by omega) with hk | hk | hk | hk | hk | hk
    · refine ask_1 h ad len cap l hp hlc hm hu hin hk _ zz _ z1 z2 g2 (fun W g o n c hN hP => ?_)
      have r := write_up hN 1 (reqL (bodyAt l 0) : Nat) (reqP (bodyAt l 0) : Nat) (nat_lo _) (nat_hi l2) (some ⟨g, o, none⟩) n c _ hP (hn hP) hfew
      rw [← hz, hk, t1E (doN_1 _ _ _), t2E (doN_1 _ _ _), t3E (doN_1 _ _ _)]
      exact r
    · refine ask_2 h ad len cap l hp hlc hm hu hin hk _ zz _ z1 z2 g2 (fun W g o n c hN hP => ?_)
      have r := repair_up hN 2 (reqL (bodyAt l 0) : Nat) (reqP (bodyAt l 0) : Nat) (nat_lo _) (nat_hi l2) (some ⟨g, o, none⟩) n c _ hP (hn hP) hfew
      rw [← hz, hk, t1E (doN_2 _ _ _), t2E (doN_2 _ _ _), t3E (doN_2 _ _ _)]
      exact r
    · refine ask_3 h ad len cap l hp hlc hm hu hin hk _ zz _ z1 z2 g2 (fun W g o n c hN hP => ?_)
      have r := seal_up hN 3 (reqL (bodyAt l 0) : Nat) (reqP (bodyAt l 0) : Nat) (nat_lo _) (nat_hi l2) (some ⟨g, o, none⟩) n c hfew
      rw [← hz, hk, t1E (doN_3 _ _ _), t2E (doN_3 _ _ _), t3E (doN_3 _ _ _)]
      exact r
    · refine ask_4 h ad len cap l hp hlc hm hu hin hk _ zz _ z1 z2 g2 (fun W g o n c hN hP => ?_)
      have r := read_up hN 4 (reqL (bodyAt l 0) : Nat) (reqP (bodyAt l 0) : Nat) (nat_lo _) (nat_hi l2) (some ⟨g, o, none⟩) n c (hg.get _ _).2
      rw [← hz, hk, t1E (doN_4 _ _ _), t2E (doN_4 _ _ _), t3E (doN_4 _ _ _)]
      exact r
    · refine ask_5 h ad len cap l hp hlc hm hu hin hk _ zz _ z1 z2 g2 (fun W g o n c hN hP => ?_)
      have r := look_up hN 5 (reqL (bodyAt l 0) : Nat) (reqP (bodyAt l 0) : Nat) (some ⟨g, o, none⟩) n c
      rw [← hz, hk, t1E (doN_5 _ _ _), t2E (doN_5 _ _ _), t3E (doN_5 _ _ _)]
      exact r
    · refine ask_6 h ad len cap l hp hlc hm hu hin hk _ zz _ z1 z2 g2 (fun W g o n c hN hP => ?_)
      have r := trim_up hN 6 (reqL (bodyAt l 0) : Nat) (reqP (bodyAt l 0) : Nat) (nat_lo _) (nat_hi l2) (some ⟨g, o, none⟩) n c hfew
      rw [← hz, hk, t1E (doN_6 _ _ _), t2E (doN_6 _ _ _), t3E (doN_6 _ _ _)]
      exact r
  · have e : askN s l = (frameBs 2 (replyN 22 0 0 []), s) := by unfold askN; rw [if_neg hh]
    rw [fstE e, sndE e]
    exact ask_form h ad len cap l hp hlc hm hh
/-- The answer is the bytes of a reply. -/
theorem ask_reply (hg : Good s) (l : List Nat) (hok : (askN s l).2.ok) : ∃ (e t : Nat) (sl : Bool) (dl : List Nat), (askN s l).1 = frameBs 2 (replyN e t sl.toNat dl) ∧ e ≤ 255 ∧ t ≤ 4096 ∧ dl.length ≤ 65504 := by
  by_cases hh : unpackN l 1 9 = true ∧ reqIn (bodyAt l 0) = true
  · have hd := reqIn_data hh.2
    obtain ⟨g1, g2, g3⟩ := hg.doN (reqK (bodyAt l 0)) (reqL (bodyAt l 0) : Nat) (reqP (bodyAt l 0) : Nat) ((bodyAt l 0).drop 9) hd
    unfold askN at hok ⊢
    rw [if_pos hh] at hok ⊢
    have h1 := g1.1
    have h2 := g1.2.1
    exact ⟨_, _, _, _, rfl, by omega, look_small hok _, g2⟩
  · unfold askN
    rw [if_neg hh]
    exact ⟨22, 0, false, [], rfl, by omega, by omega, by simp⟩
end Go.Proofs.YtjldflfoncfndaaGreat
