/- happened of the statements of layer 20 (by genhhap.py). -/
import Derived.Test.YtpjemifoilbjeaaHHapL
namespace Go.Proofs.Ytpjemifoilbjeaa
open Go.RowKit Hy
variable {w w' W : World}

theorem logH_small : ∀ (l : List Ac) (i : Nat) (log : List Nm), (∀ v ∈ log, v.length ≤ 2) → ∀ v ∈ logH i log l, v.length ≤ 2
  | [], _, _, h => h
  | a :: l, i, log, h => logH_small l (i + 1) (logI i a log) (fun v hv => by
    unfold logI at hv
    split at hv
    · exact h v hv
    · rcases List.mem_append.1 hv with hv | hv
      · exact h v hv
      · have : v = nmI i := by simpa using hv
        subst this
        simp [nmI])
theorem own_some {n m c g : Nat} (h : (Value.slice (some ⟨n, 0, none⟩) m c).ownBlock = some g) : n = g := by cases h; rfl
theorem part_keep {w7 W8 : World} {base base' B : Nat} {a : Option Addr} {m c : Nat} {l : List Nm} (h : OwnK kS w7 base' (.slice a m c) l) (hb : base ≤ base') (hB : B < base') (hk8 : ∀ g, g ≠ B → W8.heap[g]? = w7.heap[g]?) (o : Obj) : OwnK kS (W8.alloc o) base (Sl.v ⟨a, m, c⟩) l :=
  OwnK.later (w := W8) (OwnK.keep (h.mono hb) (fun g hg => hk8 g (by have := (h.block g hg).1; omega))) ((Below.refl _ _).alloc (Nat.le_refl _) _)
theorem part_apart {w7 wr : World} {base b2 : Nat} {a : Option Addr} {m c : Nat} {l L : List Nm} {lv : Value} (h : OwnK kS w7 base (.slice a m c) l) (hl : OwnK kS wr b2 lv L) (hb : wr.heap.size ≤ base) : ∀ g, (Sl.v ⟨a, m, c⟩).ownBlock = some g → lv.ownBlock ≠ some g := fun g e e2 => by
  have h1 := (h.block g e).1
  have h2 := (hl.block g e2).2.1
  omega
theorem nil_keep (W : World) (base : Nat) : OwnK kS W base sl0.v [] := OwnK.nil _ _
theorem nil_apart {lv : Value} : ∀ g, sl0.v.ownBlock = some g → lv.ownBlock ≠ some g := fun _ e => nomatch e
theorem below_and {a b : World} (h : RowKit.Below a.heap.size a b) : RowKit.Below a.heap.size a b ∧ a.heap.size ≤ b.heap.size := ⟨h, h.size⟩
/-- What happened answers. -/
def HPost (w : World) (l : List Ac) (e : Ending) (w' : World) : Prop := ∃ a m c A, e = .returned (.slice a m c) ∧ HV kR w' A a m c ∧ cls A = hapN 0 [] (l.take 200) ∧ RowKit.Below w.heap.size w w'
set_option maxRecDepth 20000 in
set_option maxHeartbeats 4000000 in
theorem happened_any {acts : List Ac} {ad : Option Addr} {m c : Nat} (h : ArgK kAc w acts ad m c) :
    Calls Try.prog 18 #[.slice ad m c] w fun e w' => HPost w acts e w' := by
  have HA := hid h
  have hl := h.len
  have HL := hid hl
  have hcap := h.cap
  have hroom := h.room
  unfold maxLen at hroom
  clear h hl
  go_enter Try.func18, Try.ntmps18
  go_wp2_with fail
  go_loopw [3, 4, 5] (fun v lv iv wr => ∃ (i : Nat) (va : Option Addr) (vc : Nat) (la : Option Addr) (lc : Nat) (A : List HcA), i ≤ m ∧ i ≤ 200 ∧ iv = .int .i64 (i : Int) ∧ v = .slice va A.length vc ∧ lv = .slice la (logH 0 [] (acts.take i)).length lc ∧ w.heap.size ≤ wr.heap.size ∧ Hid (St wr w.heap.size (.slice va A.length vc) A (.slice la (logH 0 [] (acts.take i)).length lc) (logH 0 [] (acts.take i))) ∧ Hid (cls A = hapN 0 [] (acts.take i)) ∧ Hid (RowKit.Below w.heap.size w wr)) (fun _ _ iv _ => 200 - (intOf iv).toNat)
  case atStart => exact ⟨0, none, 0, none, 0, [], by omega, by omega, rfl, rfl, rfl, Nat.le_refl _, ⟨CS.nil kR w _, OwnK.nil _ _, (fun i hi => by cases hi)⟩, rfl, Below.refl _ _⟩
  case round =>
    obtain ⟨i, va, vc, la, lc, A, hi, hi2, rfl, rfl, rfl, hsz, HSt, HNm, HBl⟩ := hrel
    by_cases hlt : i < m
    · by_cases hlt2 : i < 200
      · obtain ⟨b2, o2, rfl, hs0, hc⟩ := (HA.out.later HBl.out).cells (by omega)
        obtain ⟨⟨rd, hd, ah, be⟩, hy⟩ : ∃ y, acts.getD i kAc.z = y := ⟨_, rfl⟩
        have r0 := hc i hlt 0 (by decide)
        have r1 := hc i hlt 1 (by decide)
        have r2 := hc i hlt 2 (by decide)
        have r3 := hc i hlt 3 (by decide)
        rw [hy] at r0 r1 r2 r3
        have r0 : wr.cell? ⟨b2, o2 + i * 4, none⟩ = some (.bool rd) := r0
        have r1 : wr.cell? ⟨b2, o2 + i * 4 + 1, none⟩ = some (.bool hd) := r1
        have r2 : wr.cell? ⟨b2, o2 + i * 4 + 2, none⟩ = some (.int .i64 ah) := r2
        have r3 : wr.cell? ⟨b2, o2 + i * 4 + 3, none⟩ = some (.int .i64 be) := r3
        have HTl : Hid (0 + (acts.take i).length = i) := by show _ = _; rw [List.length_take, HL.out]; omega
        have HTk : Hid (acts.take (i + 1) = acts.take i ++ [⟨rd, hd, ah, be⟩]) := by show _ = _; rw [take_snoc_any acts kAc.z i (by rw [HL.out]; exact hlt), hy]
        have HAl : Hid (A.length ≤ 200) := by show _ ≤ _; rw [← cls_len, HNm.out, hapN_len, List.length_take]; omega
        have HLl : Hid ((logH 0 [] (acts.take i)).length ≤ 200) := by show _ ≤ _; have := logH_len (acts.take i) 0 []; rw [List.length_take] at this; simp at this; omega
        have HLs := hid (logH_small (acts.take i) 0 [] (fun v hv => by cases hv))
        clear hc hy
        have ma := md_bd ah
        have mb := md_bd be
        unfold md at ma mb
        have wa : IntKind.i64.wrap (ah.tmod 5000 + 5000) = ah.tmod 5000 + 5000 := by rw [IntKind.wrap_i64]; omega
        have wb : IntKind.i64.wrap (be.tmod 5000 + 5000) = be.tmod 5000 + 5000 := by rw [IntKind.wrap_i64]; omega
        obtain ⟨L, hL⟩ : ∃ L, logH 0 [] (acts.take i) = L := ⟨_, rfl⟩
        rw [hL] at HSt HLl HLs ⊢
        cases rd with
        | true =>
          cases hd with
          | false =>
            have hb3 : RowKit.Below wr.heap.size wr (((wr.alloc (.cells #[.bool true, .bool false, .int .i64 ah, .int .i64 be] 45)).alloc (.cells #[.bool true, .bool true, .int .i64 (max 0 (1000 * ((i : Int) + 1) - ah.tmod 5000 % 5000)), .int .i64 (1000 * ((i : Int) + 1) + 1 + be.tmod 5000 % 5000), .int .i64 0, .string ⟨#[]⟩, .slice none 0 0] 35)).alloc (.cells #[] 9)) := (((Below.refl _ wr).alloc (Nat.le_refl _) _).alloc (by simp) _).alloc (by simp only [World.size_alloc]; omega) _
            have HE : Hid (OwnK kS (((wr.alloc (.cells #[.bool true, .bool false, .int .i64 ah, .int .i64 be] 45)).alloc (.cells #[.bool true, .bool true, .int .i64 (max 0 (1000 * ((i : Int) + 1) - ah.tmod 5000 % 5000)), .int .i64 (1000 * ((i : Int) + 1) + 1 + be.tmod 5000 % 5000), .int .i64 0, .string ⟨#[]⟩, .slice none 0 0] 35)).alloc (.cells #[] 9)) (wr.heap.size + 1 + 1) (.slice (some ⟨wr.heap.size + 1 + 1, 0, none⟩) 0 0) []) := hid (emptyK_at kS ((wr.alloc (.cells #[.bool true, .bool false, .int .i64 ah, .int .i64 be] 45)).alloc (.cells #[.bool true, .bool true, .int .i64 (max 0 (1000 * ((i : Int) + 1) - ah.tmod 5000 % 5000)), .int .i64 (1000 * ((i : Int) + 1) + 1 + be.tmod 5000 % 5000), .int .i64 0, .string ⟨#[]⟩, .slice none 0 0] 35)) _ (by simp))
            have HRw := hid ((own_arg (s := ⟨la, L.length, lc⟩) kS_ok.tofit HSt.out.lg).later hb3).row
            have HNl := hid (own_arg (s := ⟨la, L.length, lc⟩) kS_ok.tofit HSt.out.lg).nil
            have HM1 : Hid (([] : List Nm).length + L.length ≤ maxLen ∧ (([] : List Nm).length + L.length) * 16 ≤ 140737488355328) := by show _ ∧ _; have := HLl.out; unfold maxLen; simp; omega
            have HM3 : Hid (wr.heap.size + 1 + 1 ≤ (((wr.alloc (.cells #[.bool true, .bool false, .int .i64 ah, .int .i64 be] 45)).alloc (.cells #[.bool true, .bool true, .int .i64 (max 0 (1000 * ((i : Int) + 1) - ah.tmod 5000 % 5000)), .int .i64 (1000 * ((i : Int) + 1) + 1 + be.tmod 5000 % 5000), .int .i64 0, .string ⟨#[]⟩, .slice none 0 0] 35)).alloc (.cells #[] 9)).heap.size) := by show _ ≤ _; simp only [World.size_alloc]; omega
            have K6 : Hid (Blk (((wr.alloc (.cells #[.bool true, .bool false, .int .i64 ah, .int .i64 be] 45)).alloc (.cells #[.bool true, .bool true, .int .i64 (max 0 (1000 * ((i : Int) + 1) - ah.tmod 5000 % 5000)), .int .i64 (1000 * ((i : Int) + 1) + 1 + be.tmod 5000 % 5000), .int .i64 0, .string ⟨#[]⟩, .slice none 0 0] 35)).alloc (.cells #[] 9)) wr.heap.size #[.bool true, .bool false, .int .i64 ah, .int .i64 be] 45) := hid (Blk.later (Blk.later (w := wr.alloc (.cells #[.bool true, .bool false, .int .i64 ah, .int .i64 be] 45)) (heap_alloc_new _ _) ((Below.refl _ _).alloc (Nat.le_refl _) _)) ((Below.refl _ _).alloc (Nat.le_refl _) _))
            have K8 : Hid (Blk (((wr.alloc (.cells #[.bool true, .bool false, .int .i64 ah, .int .i64 be] 45)).alloc (.cells #[.bool true, .bool true, .int .i64 (max 0 (1000 * ((i : Int) + 1) - ah.tmod 5000 % 5000)), .int .i64 (1000 * ((i : Int) + 1) + 1 + be.tmod 5000 % 5000), .int .i64 0, .string ⟨#[]⟩, .slice none 0 0] 35)).alloc (.cells #[] 9)) (wr.heap.size + 1) #[.bool true, .bool true, .int .i64 (max 0 (1000 * ((i : Int) + 1) - ah.tmod 5000 % 5000)), .int .i64 (1000 * ((i : Int) + 1) + 1 + be.tmod 5000 % 5000), .int .i64 0, .string ⟨#[]⟩, .slice none 0 0] 35) := by have h : Blk ((wr.alloc (.cells #[.bool true, .bool false, .int .i64 ah, .int .i64 be] 45)).alloc (.cells #[.bool true, .bool true, .int .i64 (max 0 (1000 * ((i : Int) + 1) - ah.tmod 5000 % 5000)), .int .i64 (1000 * ((i : Int) + 1) + 1 + be.tmod 5000 % 5000), .int .i64 0, .string ⟨#[]⟩, .slice none 0 0] 35)) (wr.alloc (.cells #[.bool true, .bool false, .int .i64 ah, .int .i64 be] 45)).heap.size #[.bool true, .bool true, .int .i64 (max 0 (1000 * ((i : Int) + 1) - ah.tmod 5000 % 5000)), .int .i64 (1000 * ((i : Int) + 1) + 1 + be.tmod 5000 % 5000), .int .i64 0, .string ⟨#[]⟩, .slice none 0 0] 35 := heap_alloc_new _ _; rw [World.size_alloc] at h; exact hid (h.later ((Below.refl _ _).alloc (Nat.le_refl _) _))
            have HB3 := hid hb3; clear hb3
            have HA1 : Hid (A.length + 1 ≤ maxLen ∧ (A.length + 1) * 72 ≤ 140737488355328) := by show _ ∧ _; have := HAl.out; unfold maxLen; omega
            go_wp2_with (first
              | (at_builtin
                 (with_reducible_and_instances (refine app_kd kS_ok rfl _ _ rfl (wr.heap.size + 1 + 1) (.slice (some ⟨wr.heap.size + 1 + 1, 0, none⟩) 0 0) [] rfl HE.out la L.length lc L rfl rfl HNl.out HRw.out HM1.out.1 HM1.out.2 HM3.out ?_))
                 intro v7 w7 hO7 hG7
                 have hO7 : OwnK kS w7 (wr.heap.size + 1 + 1) v7 L := hO7
                 obtain ⟨a7, c7, rfl, -⟩ := hO7.form kS_ok.tofit
                 have HO7 := hid hO7
                 have hb7 := HB3.out.grown hG7 HB3.out.size (fun k hk => by have := own_some hk; omega)
                 have HSt7 := hid (HSt.out.later hb7)
                 have HBl7 := hid (HBl.out.trans (hb7.mono hsz))
                 have hs7 : wr.heap.size + 1 + 1 + 1 ≤ w7.heap.size := (by have h1 := hG7.size; simp only [World.size_alloc] at h1; exact h1)
                 have k6 := K6.out.grown hG7 (fun e => by have := own_some e; omega)
                 have k8 := K8.out.grown hG7 (fun e => by have := own_some e; omega)
                 have HIn : Hid (∀ g, St.In (.slice va A.length vc) A (.slice la L.length lc) g → g ≠ wr.heap.size + 1) := hid (fun g hg => by have := HSt.out.lt hg; omega)
                 have q6 : w7.cell? ⟨wr.heap.size, 1, none⟩ = some (.bool false) := k6.cell 1
                 have p0 : w7.cell? ⟨wr.heap.size + 1, 0, none⟩ = some (.bool true) := k8.cell 0
                 have p1 : w7.cell? ⟨wr.heap.size + 1, 1, none⟩ = some (.bool true) := k8.cell 1
                 have p2 : w7.cell? ⟨wr.heap.size + 1, 2, none⟩ = some (.int .i64 (max 0 (1000 * ((i : Int) + 1) - ah.tmod 5000 % 5000))) := k8.cell 2
                 have p3 : w7.cell? ⟨wr.heap.size + 1, 3, none⟩ = some (.int .i64 (1000 * ((i : Int) + 1) + 1 + be.tmod 5000 % 5000)) := k8.cell 3
                 have p4 : w7.cell? ⟨wr.heap.size + 1, 4, none⟩ = some (.int .i64 0) := k8.cell 4
                 have p5 : w7.cell? ⟨wr.heap.size + 1, 5, none⟩ = some (.string ⟨#[]⟩) := k8.cell 5
                 have p6 : w7.cell? ⟨wr.heap.size + 1, 6, none⟩ = some (.slice none 0 0) := k8.cell 6
                 have f1 := k8.free 1
                 have f3 := k8.free 3
                 have f4 := k8.free 4
                 have f6 := k8.free 6
                 have f6a := k6.free 1
                 have hk8 : ∀ g, g ≠ wr.heap.size + 1 → (w7.setCell ⟨wr.heap.size + 1, 6, none⟩ (.slice a7 L.length c7)).heap[g]? = w7.heap[g]? := (fun g hg => by rw [Below.heap_setCell _ _ _ _ hg])
                 have hz8 : (w7.setCell ⟨wr.heap.size + 1, 6, none⟩ (.slice a7 L.length c7)).heap.size = w7.heap.size := by (first | rfl | simp [World.setCell])
                 have HSt8 := hid ((HSt7.out.keepAll (w' := (w7.setCell ⟨wr.heap.size + 1, 6, none⟩ (.slice a7 L.length c7))) (fun g hg => hk8 g (HIn.out g hg))).later (w' := ((w7.setCell ⟨wr.heap.size + 1, 6, none⟩ (.slice a7 L.length c7)).alloc (.cells #[.bool true, .bool true, .int .i64 (max 0 (1000 * ((i : Int) + 1) - ah.tmod 5000 % 5000)), .int .i64 (1000 * ((i : Int) + 1) + 1 + be.tmod 5000 % 5000), .int .i64 0, .string ⟨#[]⟩, .slice a7 L.length c7] 35))) ((Below.refl _ _).alloc (Nat.le_refl _) _))
                 have HY8 : Hid (OwnK kS ((w7.setCell ⟨wr.heap.size + 1, 6, none⟩ (.slice a7 L.length c7)).alloc (.cells #[.bool true, .bool true, .int .i64 (max 0 (1000 * ((i : Int) + 1) - ah.tmod 5000 % 5000)), .int .i64 (1000 * ((i : Int) + 1) + 1 + be.tmod 5000 % 5000), .int .i64 0, .string ⟨#[]⟩, .slice a7 L.length c7] 35)) w.heap.size (((⟨true, true, (max 0 (1000 * ((i : Int) + 1) - ah.tmod 5000 % 5000)), (1000 * ((i : Int) + 1) + 1 + be.tmod 5000 % 5000), 0, [], L⟩, ⟨a7, L.length, c7⟩) : HcA)).2.v (((⟨true, true, (max 0 (1000 * ((i : Int) + 1) - ah.tmod 5000 % 5000)), (1000 * ((i : Int) + 1) + 1 + be.tmod 5000 % 5000), 0, [], L⟩, ⟨a7, L.length, c7⟩) : HcA)).1.vals) := hid (part_keep HO7.out (by omega) (Nat.lt_succ_self _) hk8 _)
                 have HR8 : Hid (RowK kR ((w7.setCell ⟨wr.heap.size + 1, 6, none⟩ (.slice a7 L.length c7)).alloc (.cells #[.bool true, .bool true, .int .i64 (max 0 (1000 * ((i : Int) + 1) - ah.tmod 5000 % 5000)), .int .i64 (1000 * ((i : Int) + 1) + 1 + be.tmod 5000 % 5000), .int .i64 0, .string ⟨#[]⟩, .slice a7 L.length c7] 35)) (some ⟨w7.heap.size, 0, none⟩) [((⟨true, true, (max 0 (1000 * ((i : Int) + 1) - ah.tmod 5000 % 5000)), (1000 * ((i : Int) + 1) + 1 + be.tmod 5000 % 5000), 0, [], L⟩, ⟨a7, L.length, c7⟩) : HcA)]) := hid (call_rowR (w7.setCell ⟨wr.heap.size + 1, 6, none⟩ (.slice a7 L.length c7)) ((⟨true, true, (max 0 (1000 * ((i : Int) + 1) - ah.tmod 5000 % 5000)), (1000 * ((i : Int) + 1) + 1 + be.tmod 5000 % 5000), 0, [], L⟩, ⟨a7, L.length, c7⟩) : HcA) ⟨#[]⟩ rfl w7.heap.size (by simp))
                 have HB8 : Hid (RowKit.Below w.heap.size w ((w7.setCell ⟨wr.heap.size + 1, 6, none⟩ (.slice a7 L.length c7)).alloc (.cells #[.bool true, .bool true, .int .i64 (max 0 (1000 * ((i : Int) + 1) - ah.tmod 5000 % 5000)), .int .i64 (1000 * ((i : Int) + 1) + 1 + be.tmod 5000 % 5000), .int .i64 0, .string ⟨#[]⟩, .slice a7 L.length c7] 35)) ∧ w.heap.size ≤ ((w7.setCell ⟨wr.heap.size + 1, 6, none⟩ (.slice a7 L.length c7)).alloc (.cells #[.bool true, .bool true, .int .i64 (max 0 (1000 * ((i : Int) + 1) - ah.tmod 5000 % 5000)), .int .i64 (1000 * ((i : Int) + 1) + 1 + be.tmod 5000 % 5000), .int .i64 0, .string ⟨#[]⟩, .slice a7 L.length c7] 35)).heap.size) := hid (below_and (((HBl7.out.setCell (p := ⟨wr.heap.size + 1, _, none⟩) (by show w.heap.size ≤ wr.heap.size + 1; omega) _)).alloc (by rw [hz8]; omega) _))
                 clear k6 k8 hk8 hz8
                 clear hO7 hG7 hb7 HE HRw HNl K6 K8 HB3)
              | (at_builtin
                 (with_reducible_and_instances (refine app_oneK kR_ok rfl _ _ rfl w.heap.size (.slice va A.length vc) A rfl HSt8.out.cs.row w7.heap.size ((⟨true, true, (max 0 (1000 * ((i : Int) + 1) - ah.tmod 5000 % 5000)), (1000 * ((i : Int) + 1) + 1 + be.tmod 5000 % 5000), 0, [], L⟩, ⟨a7, L.length, c7⟩) : HcA) rfl HR8.out HA1.out.1 HA1.out.2 HB8.out.2 ?_))
                 intro g9 c9 w9 hO9 hG9 hat9
                 have HSt9 := hid (HSt8.out.more (y := ((⟨true, true, (max 0 (1000 * ((i : Int) + 1) - ah.tmod 5000 % 5000)), (1000 * ((i : Int) + 1) + 1 + be.tmod 5000 % 5000), 0, [], L⟩, ⟨a7, L.length, c7⟩) : HcA)) HY8.out (part_apart HO7.out HSt.out.lg (by omega)) ⟨by simp [maxLen], fun v hv => by have := HLs.out v (by simpa using hv); unfold maxLen; omega⟩ hG9 hO9)
                 have HBl9 := hid (HB8.out.1.grown hG9 HB8.out.2 (fun k hk => (HSt8.out.cs.row.block k hk).1))
                 clear hO9 hG9 hat9))
            refine ⟨⟨i + 1, some ⟨g9, 0, none⟩, c9, la, lc, A ++ [((⟨true, true, (max 0 (1000 * ((i : Int) + 1) - ah.tmod 5000 % 5000)), (1000 * ((i : Int) + 1) + 1 + be.tmod 5000 % 5000), 0, [], L⟩, ⟨a7, L.length, c7⟩) : HcA)], by omega, by omega, by go_num, by rw [List.length_append]; rfl, ?_, Nat.le_trans HBl9.out.size (Nat.le_refl _), ?_, ?_, HBl9⟩, by simp [intOf]; omega⟩
            · rw [HTk.out, logH_snoc, hL]; rfl
            · have h := HSt9.out
              rw [HTk.out, logH_snoc, hL, List.length_append]
              exact h
            · show cls (A ++ [_]) = _
              rw [HTk.out, hapN_snoc, hL, HTl.out, ← HNm.out]
              unfold cls
              rw [List.map_append]
              rfl
          | true =>
            have hb3 : RowKit.Below wr.heap.size wr (((wr.alloc (.cells #[.bool true, .bool true, .int .i64 ah, .int .i64 be] 45)).alloc (.cells #[.bool true, .bool true, .int .i64 (max 0 (1000 * ((i : Int) + 1) - ah.tmod 5000 % 5000)), .int .i64 (1000 * ((i : Int) + 1) + 1 + be.tmod 5000 % 5000), .int .i64 0, .string ⟨#[]⟩, .slice none 0 0] 35)).alloc (.cells #[] 9)) := (((Below.refl _ wr).alloc (Nat.le_refl _) _).alloc (by simp) _).alloc (by simp only [World.size_alloc]; omega) _
            have HE : Hid (OwnK kS (((wr.alloc (.cells #[.bool true, .bool true, .int .i64 ah, .int .i64 be] 45)).alloc (.cells #[.bool true, .bool true, .int .i64 (max 0 (1000 * ((i : Int) + 1) - ah.tmod 5000 % 5000)), .int .i64 (1000 * ((i : Int) + 1) + 1 + be.tmod 5000 % 5000), .int .i64 0, .string ⟨#[]⟩, .slice none 0 0] 35)).alloc (.cells #[] 9)) (wr.heap.size + 1 + 1) (.slice (some ⟨wr.heap.size + 1 + 1, 0, none⟩) 0 0) []) := hid (emptyK_at kS ((wr.alloc (.cells #[.bool true, .bool true, .int .i64 ah, .int .i64 be] 45)).alloc (.cells #[.bool true, .bool true, .int .i64 (max 0 (1000 * ((i : Int) + 1) - ah.tmod 5000 % 5000)), .int .i64 (1000 * ((i : Int) + 1) + 1 + be.tmod 5000 % 5000), .int .i64 0, .string ⟨#[]⟩, .slice none 0 0] 35)) _ (by simp))
            have HRw := hid ((own_arg (s := ⟨la, L.length, lc⟩) kS_ok.tofit HSt.out.lg).later hb3).row
            have HNl := hid (own_arg (s := ⟨la, L.length, lc⟩) kS_ok.tofit HSt.out.lg).nil
            have HM1 : Hid (([] : List Nm).length + L.length ≤ maxLen ∧ (([] : List Nm).length + L.length) * 16 ≤ 140737488355328) := by show _ ∧ _; have := HLl.out; unfold maxLen; simp; omega
            have HM3 : Hid (wr.heap.size + 1 + 1 ≤ (((wr.alloc (.cells #[.bool true, .bool true, .int .i64 ah, .int .i64 be] 45)).alloc (.cells #[.bool true, .bool true, .int .i64 (max 0 (1000 * ((i : Int) + 1) - ah.tmod 5000 % 5000)), .int .i64 (1000 * ((i : Int) + 1) + 1 + be.tmod 5000 % 5000), .int .i64 0, .string ⟨#[]⟩, .slice none 0 0] 35)).alloc (.cells #[] 9)).heap.size) := by show _ ≤ _; simp only [World.size_alloc]; omega
            have K6 : Hid (Blk (((wr.alloc (.cells #[.bool true, .bool true, .int .i64 ah, .int .i64 be] 45)).alloc (.cells #[.bool true, .bool true, .int .i64 (max 0 (1000 * ((i : Int) + 1) - ah.tmod 5000 % 5000)), .int .i64 (1000 * ((i : Int) + 1) + 1 + be.tmod 5000 % 5000), .int .i64 0, .string ⟨#[]⟩, .slice none 0 0] 35)).alloc (.cells #[] 9)) wr.heap.size #[.bool true, .bool true, .int .i64 ah, .int .i64 be] 45) := hid (Blk.later (Blk.later (w := wr.alloc (.cells #[.bool true, .bool true, .int .i64 ah, .int .i64 be] 45)) (heap_alloc_new _ _) ((Below.refl _ _).alloc (Nat.le_refl _) _)) ((Below.refl _ _).alloc (Nat.le_refl _) _))
            have K8 : Hid (Blk (((wr.alloc (.cells #[.bool true, .bool true, .int .i64 ah, .int .i64 be] 45)).alloc (.cells #[.bool true, .bool true, .int .i64 (max 0 (1000 * ((i : Int) + 1) - ah.tmod 5000 % 5000)), .int .i64 (1000 * ((i : Int) + 1) + 1 + be.tmod 5000 % 5000), .int .i64 0, .string ⟨#[]⟩, .slice none 0 0] 35)).alloc (.cells #[] 9)) (wr.heap.size + 1) #[.bool true, .bool true, .int .i64 (max 0 (1000 * ((i : Int) + 1) - ah.tmod 5000 % 5000)), .int .i64 (1000 * ((i : Int) + 1) + 1 + be.tmod 5000 % 5000), .int .i64 0, .string ⟨#[]⟩, .slice none 0 0] 35) := by have h : Blk ((wr.alloc (.cells #[.bool true, .bool true, .int .i64 ah, .int .i64 be] 45)).alloc (.cells #[.bool true, .bool true, .int .i64 (max 0 (1000 * ((i : Int) + 1) - ah.tmod 5000 % 5000)), .int .i64 (1000 * ((i : Int) + 1) + 1 + be.tmod 5000 % 5000), .int .i64 0, .string ⟨#[]⟩, .slice none 0 0] 35)) (wr.alloc (.cells #[.bool true, .bool true, .int .i64 ah, .int .i64 be] 45)).heap.size #[.bool true, .bool true, .int .i64 (max 0 (1000 * ((i : Int) + 1) - ah.tmod 5000 % 5000)), .int .i64 (1000 * ((i : Int) + 1) + 1 + be.tmod 5000 % 5000), .int .i64 0, .string ⟨#[]⟩, .slice none 0 0] 35 := heap_alloc_new _ _; rw [World.size_alloc] at h; exact hid (h.later ((Below.refl _ _).alloc (Nat.le_refl _) _))
            have HB3 := hid hb3; clear hb3
            have HA1 : Hid (A.length + 1 ≤ maxLen ∧ (A.length + 1) * 72 ≤ 140737488355328) := by show _ ∧ _; have := HAl.out; unfold maxLen; omega
            go_wp2_with (first
              | (at_builtin
                 (with_reducible_and_instances (refine app_kd kS_ok rfl _ _ rfl (wr.heap.size + 1 + 1) (.slice (some ⟨wr.heap.size + 1 + 1, 0, none⟩) 0 0) [] rfl HE.out la L.length lc L rfl rfl HNl.out HRw.out HM1.out.1 HM1.out.2 HM3.out ?_))
                 intro v7 w7 hO7 hG7
                 have hO7 : OwnK kS w7 (wr.heap.size + 1 + 1) v7 L := hO7
                 obtain ⟨a7, c7, rfl, -⟩ := hO7.form kS_ok.tofit
                 have HO7 := hid hO7
                 have hb7 := HB3.out.grown hG7 HB3.out.size (fun k hk => by have := own_some hk; omega)
                 have HSt7 := hid (HSt.out.later hb7)
                 have HBl7 := hid (HBl.out.trans (hb7.mono hsz))
                 have hs7 : wr.heap.size + 1 + 1 + 1 ≤ w7.heap.size := (by have h1 := hG7.size; simp only [World.size_alloc] at h1; exact h1)
                 have k6 := K6.out.grown hG7 (fun e => by have := own_some e; omega)
                 have k8 := K8.out.grown hG7 (fun e => by have := own_some e; omega)
                 have HIn : Hid (∀ g, St.In (.slice va A.length vc) A (.slice la L.length lc) g → g ≠ wr.heap.size + 1) := hid (fun g hg => by have := HSt.out.lt hg; omega)
                 have q6 : w7.cell? ⟨wr.heap.size, 1, none⟩ = some (.bool true) := k6.cell 1
                 have p0 : w7.cell? ⟨wr.heap.size + 1, 0, none⟩ = some (.bool true) := k8.cell 0
                 have p1 : w7.cell? ⟨wr.heap.size + 1, 1, none⟩ = some (.bool true) := k8.cell 1
                 have p2 : w7.cell? ⟨wr.heap.size + 1, 2, none⟩ = some (.int .i64 (max 0 (1000 * ((i : Int) + 1) - ah.tmod 5000 % 5000))) := k8.cell 2
                 have p3 : w7.cell? ⟨wr.heap.size + 1, 3, none⟩ = some (.int .i64 (1000 * ((i : Int) + 1) + 1 + be.tmod 5000 % 5000)) := k8.cell 3
                 have p4 : w7.cell? ⟨wr.heap.size + 1, 4, none⟩ = some (.int .i64 0) := k8.cell 4
                 have p5 : w7.cell? ⟨wr.heap.size + 1, 5, none⟩ = some (.string ⟨#[]⟩) := k8.cell 5
                 have p6 : w7.cell? ⟨wr.heap.size + 1, 6, none⟩ = some (.slice none 0 0) := k8.cell 6
                 have f1 := k8.free 1
                 have f3 := k8.free 3
                 have f4 := k8.free 4
                 have f6 := k8.free 6
                 have f6a := k6.free 1
                 have hk8 : ∀ g, g ≠ wr.heap.size + 1 → (((((w7.setCell ⟨wr.heap.size + 1, 6, none⟩ (.slice a7 L.length c7)).setCell ⟨wr.heap.size + 1, 1, none⟩ (.bool false)).setCell ⟨wr.heap.size + 1, 3, none⟩ (.int .i64 0)).setCell ⟨wr.heap.size + 1, 4, none⟩ (.int .i64 0)).setCell ⟨wr.heap.size + 1, 6, none⟩ (.slice none 0 0)).heap[g]? = w7.heap[g]? := (fun g hg => by rw [Below.heap_setCell _ _ _ _ hg, Below.heap_setCell _ _ _ _ hg, Below.heap_setCell _ _ _ _ hg, Below.heap_setCell _ _ _ _ hg, Below.heap_setCell _ _ _ _ hg])
                 have hz8 : (((((w7.setCell ⟨wr.heap.size + 1, 6, none⟩ (.slice a7 L.length c7)).setCell ⟨wr.heap.size + 1, 1, none⟩ (.bool false)).setCell ⟨wr.heap.size + 1, 3, none⟩ (.int .i64 0)).setCell ⟨wr.heap.size + 1, 4, none⟩ (.int .i64 0)).setCell ⟨wr.heap.size + 1, 6, none⟩ (.slice none 0 0)).heap.size = w7.heap.size := by (first | rfl | simp [World.setCell])
                 have HSt8 := hid ((HSt7.out.keepAll (w' := (((((w7.setCell ⟨wr.heap.size + 1, 6, none⟩ (.slice a7 L.length c7)).setCell ⟨wr.heap.size + 1, 1, none⟩ (.bool false)).setCell ⟨wr.heap.size + 1, 3, none⟩ (.int .i64 0)).setCell ⟨wr.heap.size + 1, 4, none⟩ (.int .i64 0)).setCell ⟨wr.heap.size + 1, 6, none⟩ (.slice none 0 0))) (fun g hg => hk8 g (HIn.out g hg))).later (w' := ((((((w7.setCell ⟨wr.heap.size + 1, 6, none⟩ (.slice a7 L.length c7)).setCell ⟨wr.heap.size + 1, 1, none⟩ (.bool false)).setCell ⟨wr.heap.size + 1, 3, none⟩ (.int .i64 0)).setCell ⟨wr.heap.size + 1, 4, none⟩ (.int .i64 0)).setCell ⟨wr.heap.size + 1, 6, none⟩ (.slice none 0 0)).alloc (.cells #[.bool true, .bool false, .int .i64 (max 0 (1000 * ((i : Int) + 1) - ah.tmod 5000 % 5000)), .int .i64 0, .int .i64 0, .string ⟨#[]⟩, .slice none 0 0] 35))) ((Below.refl _ _).alloc (Nat.le_refl _) _))
                 have HY8 : Hid (OwnK kS ((((((w7.setCell ⟨wr.heap.size + 1, 6, none⟩ (.slice a7 L.length c7)).setCell ⟨wr.heap.size + 1, 1, none⟩ (.bool false)).setCell ⟨wr.heap.size + 1, 3, none⟩ (.int .i64 0)).setCell ⟨wr.heap.size + 1, 4, none⟩ (.int .i64 0)).setCell ⟨wr.heap.size + 1, 6, none⟩ (.slice none 0 0)).alloc (.cells #[.bool true, .bool false, .int .i64 (max 0 (1000 * ((i : Int) + 1) - ah.tmod 5000 % 5000)), .int .i64 0, .int .i64 0, .string ⟨#[]⟩, .slice none 0 0] 35)) w.heap.size (((⟨true, false, (max 0 (1000 * ((i : Int) + 1) - ah.tmod 5000 % 5000)), 0, 0, [], []⟩, sl0) : HcA)).2.v (((⟨true, false, (max 0 (1000 * ((i : Int) + 1) - ah.tmod 5000 % 5000)), 0, 0, [], []⟩, sl0) : HcA)).1.vals) := hid (nil_keep _ _)
                 have HR8 : Hid (RowK kR ((((((w7.setCell ⟨wr.heap.size + 1, 6, none⟩ (.slice a7 L.length c7)).setCell ⟨wr.heap.size + 1, 1, none⟩ (.bool false)).setCell ⟨wr.heap.size + 1, 3, none⟩ (.int .i64 0)).setCell ⟨wr.heap.size + 1, 4, none⟩ (.int .i64 0)).setCell ⟨wr.heap.size + 1, 6, none⟩ (.slice none 0 0)).alloc (.cells #[.bool true, .bool false, .int .i64 (max 0 (1000 * ((i : Int) + 1) - ah.tmod 5000 % 5000)), .int .i64 0, .int .i64 0, .string ⟨#[]⟩, .slice none 0 0] 35)) (some ⟨w7.heap.size, 0, none⟩) [((⟨true, false, (max 0 (1000 * ((i : Int) + 1) - ah.tmod 5000 % 5000)), 0, 0, [], []⟩, sl0) : HcA)]) := hid (call_rowR (((((w7.setCell ⟨wr.heap.size + 1, 6, none⟩ (.slice a7 L.length c7)).setCell ⟨wr.heap.size + 1, 1, none⟩ (.bool false)).setCell ⟨wr.heap.size + 1, 3, none⟩ (.int .i64 0)).setCell ⟨wr.heap.size + 1, 4, none⟩ (.int .i64 0)).setCell ⟨wr.heap.size + 1, 6, none⟩ (.slice none 0 0)) ((⟨true, false, (max 0 (1000 * ((i : Int) + 1) - ah.tmod 5000 % 5000)), 0, 0, [], []⟩, sl0) : HcA) ⟨#[]⟩ rfl w7.heap.size (by simp))
                 have HB8 : Hid (RowKit.Below w.heap.size w ((((((w7.setCell ⟨wr.heap.size + 1, 6, none⟩ (.slice a7 L.length c7)).setCell ⟨wr.heap.size + 1, 1, none⟩ (.bool false)).setCell ⟨wr.heap.size + 1, 3, none⟩ (.int .i64 0)).setCell ⟨wr.heap.size + 1, 4, none⟩ (.int .i64 0)).setCell ⟨wr.heap.size + 1, 6, none⟩ (.slice none 0 0)).alloc (.cells #[.bool true, .bool false, .int .i64 (max 0 (1000 * ((i : Int) + 1) - ah.tmod 5000 % 5000)), .int .i64 0, .int .i64 0, .string ⟨#[]⟩, .slice none 0 0] 35)) ∧ w.heap.size ≤ ((((((w7.setCell ⟨wr.heap.size + 1, 6, none⟩ (.slice a7 L.length c7)).setCell ⟨wr.heap.size + 1, 1, none⟩ (.bool false)).setCell ⟨wr.heap.size + 1, 3, none⟩ (.int .i64 0)).setCell ⟨wr.heap.size + 1, 4, none⟩ (.int .i64 0)).setCell ⟨wr.heap.size + 1, 6, none⟩ (.slice none 0 0)).alloc (.cells #[.bool true, .bool false, .int .i64 (max 0 (1000 * ((i : Int) + 1) - ah.tmod 5000 % 5000)), .int .i64 0, .int .i64 0, .string ⟨#[]⟩, .slice none 0 0] 35)).heap.size) := hid (below_and (((((((HBl7.out.setCell (p := ⟨wr.heap.size + 1, _, none⟩) (by show w.heap.size ≤ wr.heap.size + 1; omega) _).setCell (p := ⟨wr.heap.size + 1, _, none⟩) (by show w.heap.size ≤ wr.heap.size + 1; omega) _).setCell (p := ⟨wr.heap.size + 1, _, none⟩) (by show w.heap.size ≤ wr.heap.size + 1; omega) _).setCell (p := ⟨wr.heap.size + 1, _, none⟩) (by show w.heap.size ≤ wr.heap.size + 1; omega) _).setCell (p := ⟨wr.heap.size + 1, _, none⟩) (by show w.heap.size ≤ wr.heap.size + 1; omega) _)).alloc (by rw [hz8]; omega) _))
                 clear k6 k8 hk8 hz8
                 clear hO7 hG7 hb7 HE HRw HNl K6 K8 HB3)
              | (at_builtin
                 (with_reducible_and_instances (refine app_oneK kR_ok rfl _ _ rfl w.heap.size (.slice va A.length vc) A rfl HSt8.out.cs.row w7.heap.size ((⟨true, false, (max 0 (1000 * ((i : Int) + 1) - ah.tmod 5000 % 5000)), 0, 0, [], []⟩, sl0) : HcA) rfl HR8.out HA1.out.1 HA1.out.2 HB8.out.2 ?_))
                 intro g9 c9 w9 hO9 hG9 hat9
                 have HSt9 := hid (HSt8.out.more (y := ((⟨true, false, (max 0 (1000 * ((i : Int) + 1) - ah.tmod 5000 % 5000)), 0, 0, [], []⟩, sl0) : HcA)) HY8.out nil_apart ⟨by simp [maxLen], fun v hv => by have := HLs.out v (by cases hv); unfold maxLen; omega⟩ hG9 hO9)
                 have HBl9 := hid (HB8.out.1.grown hG9 HB8.out.2 (fun k hk => (HSt8.out.cs.row.block k hk).1))
                 clear hO9 hG9 hat9))
            refine ⟨⟨i + 1, some ⟨g9, 0, none⟩, c9, la, lc, A ++ [((⟨true, false, (max 0 (1000 * ((i : Int) + 1) - ah.tmod 5000 % 5000)), 0, 0, [], []⟩, sl0) : HcA)], by omega, by omega, by go_num, by rw [List.length_append]; rfl, ?_, Nat.le_trans HBl9.out.size (Nat.le_refl _), ?_, ?_, HBl9⟩, by simp [intOf]; omega⟩
            · rw [HTk.out, logH_snoc, hL]; rfl
            · have h := HSt9.out
              rw [HTk.out, logH_snoc, hL, List.length_append]
              exact h
            · show cls (A ++ [_]) = _
              rw [HTk.out, hapN_snoc, hL, HTl.out, ← HNm.out]
              unfold cls
              rw [List.map_append]
              rfl
        | false =>
          cases hd with
          | false =>
            obtain ⟨ns, hns⟩ : ∃ ns, nmS (nmI i) = ns := ⟨_, rfl⟩
            have hcv := conv2 ((wr.alloc (.cells #[.bool false, .bool false, .int .i64 ah, .int .i64 be] 45)).alloc (.cells #[.bool false, .bool true, .int .i64 (max 0 (1000 * ((i : Int) + 1) - ah.tmod 5000 % 5000)), .int .i64 (1000 * ((i : Int) + 1) + 1 + be.tmod 5000 % 5000), .int .i64 0, .string ⟨#[]⟩, .slice none 0 0] 35)) i hlt2 (wr.heap.size + 1 + 1) (by simp)
            rw [hns] at hcv
            have HNs := hid hns; clear hns
            have hb6 : RowKit.Below wr.heap.size wr ((((wr.alloc (.cells #[.bool false, .bool false, .int .i64 ah, .int .i64 be] 45)).alloc (.cells #[.bool false, .bool true, .int .i64 (max 0 (1000 * ((i : Int) + 1) - ah.tmod 5000 % 5000)), .int .i64 (1000 * ((i : Int) + 1) + 1 + be.tmod 5000 % 5000), .int .i64 (L.length : Int), .string ns, .slice none 0 0] 35)).alloc (.cells #[.int .u8 (97 + (i : Int) % 26), .int .u8 (97 + (i : Int) / 26)] 5)).alloc (.cells #[.string ns] 9)) := ((((Below.refl _ wr).alloc (Nat.le_refl _) _).alloc (by simp) _).alloc (by simp only [World.size_alloc]; omega) _).alloc (by simp only [World.size_alloc]; omega) _
            have HSt6 := hid (HSt.out.later hb6)
            have HRs := hid (str_row (((wr.alloc (.cells #[.bool false, .bool false, .int .i64 ah, .int .i64 be] 45)).alloc (.cells #[.bool false, .bool true, .int .i64 (max 0 (1000 * ((i : Int) + 1) - ah.tmod 5000 % 5000)), .int .i64 (1000 * ((i : Int) + 1) + 1 + be.tmod 5000 % 5000), .int .i64 (L.length : Int), .string ns, .slice none 0 0] 35)).alloc (.cells #[.int .u8 (97 + (i : Int) % 26), .int .u8 (97 + (i : Int) / 26)] 5)) (nmI i) ns HNs.out (wr.heap.size + 1 + 1 + 1) (by simp))
            have HM1 : Hid (L.length + 1 ≤ maxLen ∧ (L.length + 1) * 16 ≤ 140737488355328) := by show _ ∧ _; have := HLl.out; unfold maxLen; omega
            have HM3 : Hid (w.heap.size ≤ ((((wr.alloc (.cells #[.bool false, .bool false, .int .i64 ah, .int .i64 be] 45)).alloc (.cells #[.bool false, .bool true, .int .i64 (max 0 (1000 * ((i : Int) + 1) - ah.tmod 5000 % 5000)), .int .i64 (1000 * ((i : Int) + 1) + 1 + be.tmod 5000 % 5000), .int .i64 (L.length : Int), .string ns, .slice none 0 0] 35)).alloc (.cells #[.int .u8 (97 + (i : Int) % 26), .int .u8 (97 + (i : Int) / 26)] 5)).alloc (.cells #[.string ns] 9)).heap.size) := hid (Nat.le_trans hsz hb6.size)
            have K6 : Hid (Blk ((((wr.alloc (.cells #[.bool false, .bool false, .int .i64 ah, .int .i64 be] 45)).alloc (.cells #[.bool false, .bool true, .int .i64 (max 0 (1000 * ((i : Int) + 1) - ah.tmod 5000 % 5000)), .int .i64 (1000 * ((i : Int) + 1) + 1 + be.tmod 5000 % 5000), .int .i64 (L.length : Int), .string ns, .slice none 0 0] 35)).alloc (.cells #[.int .u8 (97 + (i : Int) % 26), .int .u8 (97 + (i : Int) / 26)] 5)).alloc (.cells #[.string ns] 9)) wr.heap.size #[.bool false, .bool false, .int .i64 ah, .int .i64 be] 45) := hid (Blk.later (Blk.later (Blk.later (w := wr.alloc (.cells #[.bool false, .bool false, .int .i64 ah, .int .i64 be] 45)) (heap_alloc_new _ _) ((Below.refl _ _).alloc (Nat.le_refl _) _)) ((Below.refl _ _).alloc (Nat.le_refl _) _)) ((Below.refl _ _).alloc (Nat.le_refl _) _))
            have K8 : Hid (Blk ((((wr.alloc (.cells #[.bool false, .bool false, .int .i64 ah, .int .i64 be] 45)).alloc (.cells #[.bool false, .bool true, .int .i64 (max 0 (1000 * ((i : Int) + 1) - ah.tmod 5000 % 5000)), .int .i64 (1000 * ((i : Int) + 1) + 1 + be.tmod 5000 % 5000), .int .i64 (L.length : Int), .string ns, .slice none 0 0] 35)).alloc (.cells #[.int .u8 (97 + (i : Int) % 26), .int .u8 (97 + (i : Int) / 26)] 5)).alloc (.cells #[.string ns] 9)) (wr.heap.size + 1) #[.bool false, .bool true, .int .i64 (max 0 (1000 * ((i : Int) + 1) - ah.tmod 5000 % 5000)), .int .i64 (1000 * ((i : Int) + 1) + 1 + be.tmod 5000 % 5000), .int .i64 (L.length : Int), .string ns, .slice none 0 0] 35) := by have h : Blk ((wr.alloc (.cells #[.bool false, .bool false, .int .i64 ah, .int .i64 be] 45)).alloc (.cells #[.bool false, .bool true, .int .i64 (max 0 (1000 * ((i : Int) + 1) - ah.tmod 5000 % 5000)), .int .i64 (1000 * ((i : Int) + 1) + 1 + be.tmod 5000 % 5000), .int .i64 (L.length : Int), .string ns, .slice none 0 0] 35)) (wr.alloc (.cells #[.bool false, .bool false, .int .i64 ah, .int .i64 be] 45)).heap.size #[.bool false, .bool true, .int .i64 (max 0 (1000 * ((i : Int) + 1) - ah.tmod 5000 % 5000)), .int .i64 (1000 * ((i : Int) + 1) + 1 + be.tmod 5000 % 5000), .int .i64 (L.length : Int), .string ns, .slice none 0 0] 35 := heap_alloc_new _ _; rw [World.size_alloc] at h; exact hid ((h.later ((Below.refl _ _).alloc (Nat.le_refl _) _)).later ((Below.refl _ _).alloc (Nat.le_refl _) _))
            have HB6 := hid hb6; clear hb6
            have HA1 : Hid (A.length + 1 ≤ maxLen ∧ (A.length + 1) * 72 ≤ 140737488355328) := by show _ ∧ _; have := HAl.out; unfold maxLen; omega
            go_wp2_with (first
              | (at_builtin
                 (with_reducible_and_instances (refine app_oneK kS_ok rfl _ _ rfl w.heap.size (.slice la L.length lc) L rfl HSt6.out.lg (wr.heap.size + 1 + 1 + 1) (nmI i) rfl HRs.out HM1.out.1 HM1.out.2 HM3.out ?_))
                 intro g7 c7 w7 hO7 hG7 hat7
                 have hz6 : ((((wr.alloc (.cells #[.bool false, .bool false, .int .i64 ah, .int .i64 be] 45)).alloc (.cells #[.bool false, .bool true, .int .i64 (max 0 (1000 * ((i : Int) + 1) - ah.tmod 5000 % 5000)), .int .i64 (1000 * ((i : Int) + 1) + 1 + be.tmod 5000 % 5000), .int .i64 (L.length : Int), .string ns, .slice none 0 0] 35)).alloc (.cells #[.int .u8 (97 + (i : Int) % 26), .int .u8 (97 + (i : Int) / 26)] 5)).alloc (.cells #[.string ns] 9)).heap.size = wr.heap.size + 1 + 1 + 1 + 1 := by simp
                 rw [hz6] at hat7
                 have HSt7 := hid (HSt6.out.log hG7 hO7 (fun g hg => by have e7 := own_some hg; subst e7; rcases hat7 with h | h; exact Or.inl h; exact Or.inr (by omega)))
                 have HBl7 := hid ((HBl.out.trans (HB6.out.mono hsz)).grown hG7 HM3.out (fun k hk => (HSt.out.lg.block k hk).1))
                 have hs7 : wr.heap.size + 1 + 1 + 1 ≤ w7.heap.size := (by have h1 := hG7.size; omega)
                 have k6 := K6.out.grown hG7 (fun e => by have := (HSt.out.lg.block _ e).2.1; omega)
                 have k8 := K8.out.grown hG7 (fun e => by have := (HSt.out.lg.block _ e).2.1; omega)
                 have HIn : Hid (∀ g, St.In (.slice va A.length vc) A (.slice (some ⟨g7, 0, none⟩) (L.length + 1) c7) g → g ≠ wr.heap.size + 1) := hid (fun g hg => by rcases hg with hg | hg | hg; (have := HSt.out.lt (Or.inl hg); omega); (have := HSt.out.lt (Or.inr (Or.inl hg)); omega); (have e7 := own_some hg; subst e7; rcases hat7 with h | h; (have := (HSt.out.lg.block _ h).2.1; omega); omega))
                 have q6 : w7.cell? ⟨wr.heap.size, 1, none⟩ = some (.bool false) := k6.cell 1
                 have p0 : w7.cell? ⟨wr.heap.size + 1, 0, none⟩ = some (.bool false) := k8.cell 0
                 have p1 : w7.cell? ⟨wr.heap.size + 1, 1, none⟩ = some (.bool true) := k8.cell 1
                 have p2 : w7.cell? ⟨wr.heap.size + 1, 2, none⟩ = some (.int .i64 (max 0 (1000 * ((i : Int) + 1) - ah.tmod 5000 % 5000))) := k8.cell 2
                 have p3 : w7.cell? ⟨wr.heap.size + 1, 3, none⟩ = some (.int .i64 (1000 * ((i : Int) + 1) + 1 + be.tmod 5000 % 5000)) := k8.cell 3
                 have p4 : w7.cell? ⟨wr.heap.size + 1, 4, none⟩ = some (.int .i64 (L.length : Int)) := k8.cell 4
                 have p5 : w7.cell? ⟨wr.heap.size + 1, 5, none⟩ = some (.string ns) := k8.cell 5
                 have p6 : w7.cell? ⟨wr.heap.size + 1, 6, none⟩ = some (.slice none 0 0) := k8.cell 6
                 have f1 := k8.free 1
                 have f3 := k8.free 3
                 have f4 := k8.free 4
                 have f6 := k8.free 6
                 have f6a := k6.free 1
                 have hk8 : ∀ g, g ≠ wr.heap.size + 1 → w7.heap[g]? = w7.heap[g]? := (fun g hg => rfl)
                 have hz8 : w7.heap.size = w7.heap.size := by (first | rfl | simp [World.setCell])
                 have HSt8 := hid ((HSt7.out.keepAll (w' := w7) (fun g hg => hk8 g (HIn.out g hg))).later (w' := (w7.alloc (.cells #[.bool false, .bool true, .int .i64 (max 0 (1000 * ((i : Int) + 1) - ah.tmod 5000 % 5000)), .int .i64 (1000 * ((i : Int) + 1) + 1 + be.tmod 5000 % 5000), .int .i64 (L.length : Int), .string ns, .slice none 0 0] 35))) ((Below.refl _ _).alloc (Nat.le_refl _) _))
                 have HY8 : Hid (OwnK kS (w7.alloc (.cells #[.bool false, .bool true, .int .i64 (max 0 (1000 * ((i : Int) + 1) - ah.tmod 5000 % 5000)), .int .i64 (1000 * ((i : Int) + 1) + 1 + be.tmod 5000 % 5000), .int .i64 (L.length : Int), .string ns, .slice none 0 0] 35)) w.heap.size (((⟨false, true, (max 0 (1000 * ((i : Int) + 1) - ah.tmod 5000 % 5000)), (1000 * ((i : Int) + 1) + 1 + be.tmod 5000 % 5000), (L.length : Int), nmI i, []⟩, sl0) : HcA)).2.v (((⟨false, true, (max 0 (1000 * ((i : Int) + 1) - ah.tmod 5000 % 5000)), (1000 * ((i : Int) + 1) + 1 + be.tmod 5000 % 5000), (L.length : Int), nmI i, []⟩, sl0) : HcA)).1.vals) := hid (nil_keep _ _)
                 have HR8 : Hid (RowK kR (w7.alloc (.cells #[.bool false, .bool true, .int .i64 (max 0 (1000 * ((i : Int) + 1) - ah.tmod 5000 % 5000)), .int .i64 (1000 * ((i : Int) + 1) + 1 + be.tmod 5000 % 5000), .int .i64 (L.length : Int), .string ns, .slice none 0 0] 35)) (some ⟨w7.heap.size, 0, none⟩) [((⟨false, true, (max 0 (1000 * ((i : Int) + 1) - ah.tmod 5000 % 5000)), (1000 * ((i : Int) + 1) + 1 + be.tmod 5000 % 5000), (L.length : Int), nmI i, []⟩, sl0) : HcA)]) := hid (call_rowR w7 ((⟨false, true, (max 0 (1000 * ((i : Int) + 1) - ah.tmod 5000 % 5000)), (1000 * ((i : Int) + 1) + 1 + be.tmod 5000 % 5000), (L.length : Int), nmI i, []⟩, sl0) : HcA) ns HNs.out w7.heap.size (by simp))
                 have HB8 : Hid (RowKit.Below w.heap.size w (w7.alloc (.cells #[.bool false, .bool true, .int .i64 (max 0 (1000 * ((i : Int) + 1) - ah.tmod 5000 % 5000)), .int .i64 (1000 * ((i : Int) + 1) + 1 + be.tmod 5000 % 5000), .int .i64 (L.length : Int), .string ns, .slice none 0 0] 35)) ∧ w.heap.size ≤ (w7.alloc (.cells #[.bool false, .bool true, .int .i64 (max 0 (1000 * ((i : Int) + 1) - ah.tmod 5000 % 5000)), .int .i64 (1000 * ((i : Int) + 1) + 1 + be.tmod 5000 % 5000), .int .i64 (L.length : Int), .string ns, .slice none 0 0] 35)).heap.size) := hid (below_and ((HBl7.out).alloc (by rw [hz8]; omega) _))
                 clear k6 k8 hk8 hz8
                 clear hO7 hG7 hat7 hz6 HSt6 HRs K6 K8 HB6)
              | (at_builtin
                 (with_reducible_and_instances (refine app_oneK kR_ok rfl _ _ rfl w.heap.size (.slice va A.length vc) A rfl HSt8.out.cs.row w7.heap.size ((⟨false, true, (max 0 (1000 * ((i : Int) + 1) - ah.tmod 5000 % 5000)), (1000 * ((i : Int) + 1) + 1 + be.tmod 5000 % 5000), (L.length : Int), nmI i, []⟩, sl0) : HcA) rfl HR8.out HA1.out.1 HA1.out.2 HB8.out.2 ?_))
                 intro g9 c9 w9 hO9 hG9 hat9
                 have HSt9 := hid (HSt8.out.more (y := ((⟨false, true, (max 0 (1000 * ((i : Int) + 1) - ah.tmod 5000 % 5000)), (1000 * ((i : Int) + 1) + 1 + be.tmod 5000 % 5000), (L.length : Int), nmI i, []⟩, sl0) : HcA)) HY8.out nil_apart ⟨by simp [maxLen, nmI], fun v hv => by cases hv⟩ hG9 hO9)
                 have HBl9 := hid (HB8.out.1.grown hG9 HB8.out.2 (fun k hk => (HSt8.out.cs.row.block k hk).1))
                 clear hO9 hG9 hat9))
            refine ⟨⟨i + 1, some ⟨g9, 0, none⟩, c9, some ⟨g7, 0, none⟩, c7, A ++ [((⟨false, true, (max 0 (1000 * ((i : Int) + 1) - ah.tmod 5000 % 5000)), (1000 * ((i : Int) + 1) + 1 + be.tmod 5000 % 5000), (L.length : Int), nmI i, []⟩, sl0) : HcA)], by omega, by omega, by go_num, by rw [List.length_append]; rfl, ?_, Nat.le_trans HBl9.out.size (Nat.le_refl _), ?_, ?_, HBl9⟩, by simp [intOf]; omega⟩
            · rw [HTk.out, logH_snoc, hL]; show _ = Value.slice _ (L ++ [nmI (0 + (acts.take i).length)]).length _; rw [List.length_append]; rfl
            · have h := HSt9.out
              rw [HTk.out, logH_snoc, hL, List.length_append]
              show St _ _ _ _ (Value.slice _ (L ++ [nmI (0 + (acts.take i).length)]).length _) (L ++ [nmI (0 + (acts.take i).length)])
              rw [List.length_append, HTl.out]
              exact h
            · show cls (A ++ [_]) = _
              rw [HTk.out, hapN_snoc, hL, HTl.out, ← HNm.out]
              unfold cls
              rw [List.map_append]
              rfl
          | true =>
            obtain ⟨ns, hns⟩ : ∃ ns, nmS (nmI i) = ns := ⟨_, rfl⟩
            have hcv := conv2 ((wr.alloc (.cells #[.bool false, .bool true, .int .i64 ah, .int .i64 be] 45)).alloc (.cells #[.bool false, .bool true, .int .i64 (max 0 (1000 * ((i : Int) + 1) - ah.tmod 5000 % 5000)), .int .i64 (1000 * ((i : Int) + 1) + 1 + be.tmod 5000 % 5000), .int .i64 0, .string ⟨#[]⟩, .slice none 0 0] 35)) i hlt2 (wr.heap.size + 1 + 1) (by simp)
            rw [hns] at hcv
            have HNs := hid hns; clear hns
            have hb6 : RowKit.Below wr.heap.size wr ((((wr.alloc (.cells #[.bool false, .bool true, .int .i64 ah, .int .i64 be] 45)).alloc (.cells #[.bool false, .bool true, .int .i64 (max 0 (1000 * ((i : Int) + 1) - ah.tmod 5000 % 5000)), .int .i64 (1000 * ((i : Int) + 1) + 1 + be.tmod 5000 % 5000), .int .i64 (L.length : Int), .string ns, .slice none 0 0] 35)).alloc (.cells #[.int .u8 (97 + (i : Int) % 26), .int .u8 (97 + (i : Int) / 26)] 5)).alloc (.cells #[.string ns] 9)) := ((((Below.refl _ wr).alloc (Nat.le_refl _) _).alloc (by simp) _).alloc (by simp only [World.size_alloc]; omega) _).alloc (by simp only [World.size_alloc]; omega) _
            have HSt6 := hid (HSt.out.later hb6)
            have HRs := hid (str_row (((wr.alloc (.cells #[.bool false, .bool true, .int .i64 ah, .int .i64 be] 45)).alloc (.cells #[.bool false, .bool true, .int .i64 (max 0 (1000 * ((i : Int) + 1) - ah.tmod 5000 % 5000)), .int .i64 (1000 * ((i : Int) + 1) + 1 + be.tmod 5000 % 5000), .int .i64 (L.length : Int), .string ns, .slice none 0 0] 35)).alloc (.cells #[.int .u8 (97 + (i : Int) % 26), .int .u8 (97 + (i : Int) / 26)] 5)) (nmI i) ns HNs.out (wr.heap.size + 1 + 1 + 1) (by simp))
            have HM1 : Hid (L.length + 1 ≤ maxLen ∧ (L.length + 1) * 16 ≤ 140737488355328) := by show _ ∧ _; have := HLl.out; unfold maxLen; omega
            have HM3 : Hid (w.heap.size ≤ ((((wr.alloc (.cells #[.bool false, .bool true, .int .i64 ah, .int .i64 be] 45)).alloc (.cells #[.bool false, .bool true, .int .i64 (max 0 (1000 * ((i : Int) + 1) - ah.tmod 5000 % 5000)), .int .i64 (1000 * ((i : Int) + 1) + 1 + be.tmod 5000 % 5000), .int .i64 (L.length : Int), .string ns, .slice none 0 0] 35)).alloc (.cells #[.int .u8 (97 + (i : Int) % 26), .int .u8 (97 + (i : Int) / 26)] 5)).alloc (.cells #[.string ns] 9)).heap.size) := hid (Nat.le_trans hsz hb6.size)
            have K6 : Hid (Blk ((((wr.alloc (.cells #[.bool false, .bool true, .int .i64 ah, .int .i64 be] 45)).alloc (.cells #[.bool false, .bool true, .int .i64 (max 0 (1000 * ((i : Int) + 1) - ah.tmod 5000 % 5000)), .int .i64 (1000 * ((i : Int) + 1) + 1 + be.tmod 5000 % 5000), .int .i64 (L.length : Int), .string ns, .slice none 0 0] 35)).alloc (.cells #[.int .u8 (97 + (i : Int) % 26), .int .u8 (97 + (i : Int) / 26)] 5)).alloc (.cells #[.string ns] 9)) wr.heap.size #[.bool false, .bool true, .int .i64 ah, .int .i64 be] 45) := hid (Blk.later (Blk.later (Blk.later (w := wr.alloc (.cells #[.bool false, .bool true, .int .i64 ah, .int .i64 be] 45)) (heap_alloc_new _ _) ((Below.refl _ _).alloc (Nat.le_refl _) _)) ((Below.refl _ _).alloc (Nat.le_refl _) _)) ((Below.refl _ _).alloc (Nat.le_refl _) _))
            have K8 : Hid (Blk ((((wr.alloc (.cells #[.bool false, .bool true, .int .i64 ah, .int .i64 be] 45)).alloc (.cells #[.bool false, .bool true, .int .i64 (max 0 (1000 * ((i : Int) + 1) - ah.tmod 5000 % 5000)), .int .i64 (1000 * ((i : Int) + 1) + 1 + be.tmod 5000 % 5000), .int .i64 (L.length : Int), .string ns, .slice none 0 0] 35)).alloc (.cells #[.int .u8 (97 + (i : Int) % 26), .int .u8 (97 + (i : Int) / 26)] 5)).alloc (.cells #[.string ns] 9)) (wr.heap.size + 1) #[.bool false, .bool true, .int .i64 (max 0 (1000 * ((i : Int) + 1) - ah.tmod 5000 % 5000)), .int .i64 (1000 * ((i : Int) + 1) + 1 + be.tmod 5000 % 5000), .int .i64 (L.length : Int), .string ns, .slice none 0 0] 35) := by have h : Blk ((wr.alloc (.cells #[.bool false, .bool true, .int .i64 ah, .int .i64 be] 45)).alloc (.cells #[.bool false, .bool true, .int .i64 (max 0 (1000 * ((i : Int) + 1) - ah.tmod 5000 % 5000)), .int .i64 (1000 * ((i : Int) + 1) + 1 + be.tmod 5000 % 5000), .int .i64 (L.length : Int), .string ns, .slice none 0 0] 35)) (wr.alloc (.cells #[.bool false, .bool true, .int .i64 ah, .int .i64 be] 45)).heap.size #[.bool false, .bool true, .int .i64 (max 0 (1000 * ((i : Int) + 1) - ah.tmod 5000 % 5000)), .int .i64 (1000 * ((i : Int) + 1) + 1 + be.tmod 5000 % 5000), .int .i64 (L.length : Int), .string ns, .slice none 0 0] 35 := heap_alloc_new _ _; rw [World.size_alloc] at h; exact hid ((h.later ((Below.refl _ _).alloc (Nat.le_refl _) _)).later ((Below.refl _ _).alloc (Nat.le_refl _) _))
            have HB6 := hid hb6; clear hb6
            have HA1 : Hid (A.length + 1 ≤ maxLen ∧ (A.length + 1) * 72 ≤ 140737488355328) := by show _ ∧ _; have := HAl.out; unfold maxLen; omega
            go_wp2_with (first
              | (at_builtin
                 (with_reducible_and_instances (refine app_oneK kS_ok rfl _ _ rfl w.heap.size (.slice la L.length lc) L rfl HSt6.out.lg (wr.heap.size + 1 + 1 + 1) (nmI i) rfl HRs.out HM1.out.1 HM1.out.2 HM3.out ?_))
                 intro g7 c7 w7 hO7 hG7 hat7
                 have hz6 : ((((wr.alloc (.cells #[.bool false, .bool true, .int .i64 ah, .int .i64 be] 45)).alloc (.cells #[.bool false, .bool true, .int .i64 (max 0 (1000 * ((i : Int) + 1) - ah.tmod 5000 % 5000)), .int .i64 (1000 * ((i : Int) + 1) + 1 + be.tmod 5000 % 5000), .int .i64 (L.length : Int), .string ns, .slice none 0 0] 35)).alloc (.cells #[.int .u8 (97 + (i : Int) % 26), .int .u8 (97 + (i : Int) / 26)] 5)).alloc (.cells #[.string ns] 9)).heap.size = wr.heap.size + 1 + 1 + 1 + 1 := by simp
                 rw [hz6] at hat7
                 have HSt7 := hid (HSt6.out.log hG7 hO7 (fun g hg => by have e7 := own_some hg; subst e7; rcases hat7 with h | h; exact Or.inl h; exact Or.inr (by omega)))
                 have HBl7 := hid ((HBl.out.trans (HB6.out.mono hsz)).grown hG7 HM3.out (fun k hk => (HSt.out.lg.block k hk).1))
                 have hs7 : wr.heap.size + 1 + 1 + 1 ≤ w7.heap.size := (by have h1 := hG7.size; omega)
                 have k6 := K6.out.grown hG7 (fun e => by have := (HSt.out.lg.block _ e).2.1; omega)
                 have k8 := K8.out.grown hG7 (fun e => by have := (HSt.out.lg.block _ e).2.1; omega)
                 have HIn : Hid (∀ g, St.In (.slice va A.length vc) A (.slice (some ⟨g7, 0, none⟩) (L.length + 1) c7) g → g ≠ wr.heap.size + 1) := hid (fun g hg => by rcases hg with hg | hg | hg; (have := HSt.out.lt (Or.inl hg); omega); (have := HSt.out.lt (Or.inr (Or.inl hg)); omega); (have e7 := own_some hg; subst e7; rcases hat7 with h | h; (have := (HSt.out.lg.block _ h).2.1; omega); omega))
                 have q6 : w7.cell? ⟨wr.heap.size, 1, none⟩ = some (.bool true) := k6.cell 1
                 have p0 : w7.cell? ⟨wr.heap.size + 1, 0, none⟩ = some (.bool false) := k8.cell 0
                 have p1 : w7.cell? ⟨wr.heap.size + 1, 1, none⟩ = some (.bool true) := k8.cell 1
                 have p2 : w7.cell? ⟨wr.heap.size + 1, 2, none⟩ = some (.int .i64 (max 0 (1000 * ((i : Int) + 1) - ah.tmod 5000 % 5000))) := k8.cell 2
                 have p3 : w7.cell? ⟨wr.heap.size + 1, 3, none⟩ = some (.int .i64 (1000 * ((i : Int) + 1) + 1 + be.tmod 5000 % 5000)) := k8.cell 3
                 have p4 : w7.cell? ⟨wr.heap.size + 1, 4, none⟩ = some (.int .i64 (L.length : Int)) := k8.cell 4
                 have p5 : w7.cell? ⟨wr.heap.size + 1, 5, none⟩ = some (.string ns) := k8.cell 5
                 have p6 : w7.cell? ⟨wr.heap.size + 1, 6, none⟩ = some (.slice none 0 0) := k8.cell 6
                 have f1 := k8.free 1
                 have f3 := k8.free 3
                 have f4 := k8.free 4
                 have f6 := k8.free 6
                 have f6a := k6.free 1
                 have hk8 : ∀ g, g ≠ wr.heap.size + 1 → ((((w7.setCell ⟨wr.heap.size + 1, 1, none⟩ (.bool false)).setCell ⟨wr.heap.size + 1, 3, none⟩ (.int .i64 0)).setCell ⟨wr.heap.size + 1, 4, none⟩ (.int .i64 0)).setCell ⟨wr.heap.size + 1, 6, none⟩ (.slice none 0 0)).heap[g]? = w7.heap[g]? := (fun g hg => by rw [Below.heap_setCell _ _ _ _ hg, Below.heap_setCell _ _ _ _ hg, Below.heap_setCell _ _ _ _ hg, Below.heap_setCell _ _ _ _ hg])
                 have hz8 : ((((w7.setCell ⟨wr.heap.size + 1, 1, none⟩ (.bool false)).setCell ⟨wr.heap.size + 1, 3, none⟩ (.int .i64 0)).setCell ⟨wr.heap.size + 1, 4, none⟩ (.int .i64 0)).setCell ⟨wr.heap.size + 1, 6, none⟩ (.slice none 0 0)).heap.size = w7.heap.size := by (first | rfl | simp [World.setCell])
                 have HSt8 := hid ((HSt7.out.keepAll (w' := ((((w7.setCell ⟨wr.heap.size + 1, 1, none⟩ (.bool false)).setCell ⟨wr.heap.size + 1, 3, none⟩ (.int .i64 0)).setCell ⟨wr.heap.size + 1, 4, none⟩ (.int .i64 0)).setCell ⟨wr.heap.size + 1, 6, none⟩ (.slice none 0 0))) (fun g hg => hk8 g (HIn.out g hg))).later (w' := (((((w7.setCell ⟨wr.heap.size + 1, 1, none⟩ (.bool false)).setCell ⟨wr.heap.size + 1, 3, none⟩ (.int .i64 0)).setCell ⟨wr.heap.size + 1, 4, none⟩ (.int .i64 0)).setCell ⟨wr.heap.size + 1, 6, none⟩ (.slice none 0 0)).alloc (.cells #[.bool false, .bool false, .int .i64 (max 0 (1000 * ((i : Int) + 1) - ah.tmod 5000 % 5000)), .int .i64 0, .int .i64 0, .string ns, .slice none 0 0] 35))) ((Below.refl _ _).alloc (Nat.le_refl _) _))
                 have HY8 : Hid (OwnK kS (((((w7.setCell ⟨wr.heap.size + 1, 1, none⟩ (.bool false)).setCell ⟨wr.heap.size + 1, 3, none⟩ (.int .i64 0)).setCell ⟨wr.heap.size + 1, 4, none⟩ (.int .i64 0)).setCell ⟨wr.heap.size + 1, 6, none⟩ (.slice none 0 0)).alloc (.cells #[.bool false, .bool false, .int .i64 (max 0 (1000 * ((i : Int) + 1) - ah.tmod 5000 % 5000)), .int .i64 0, .int .i64 0, .string ns, .slice none 0 0] 35)) w.heap.size (((⟨false, false, (max 0 (1000 * ((i : Int) + 1) - ah.tmod 5000 % 5000)), 0, 0, nmI i, []⟩, sl0) : HcA)).2.v (((⟨false, false, (max 0 (1000 * ((i : Int) + 1) - ah.tmod 5000 % 5000)), 0, 0, nmI i, []⟩, sl0) : HcA)).1.vals) := hid (nil_keep _ _)
                 have HR8 : Hid (RowK kR (((((w7.setCell ⟨wr.heap.size + 1, 1, none⟩ (.bool false)).setCell ⟨wr.heap.size + 1, 3, none⟩ (.int .i64 0)).setCell ⟨wr.heap.size + 1, 4, none⟩ (.int .i64 0)).setCell ⟨wr.heap.size + 1, 6, none⟩ (.slice none 0 0)).alloc (.cells #[.bool false, .bool false, .int .i64 (max 0 (1000 * ((i : Int) + 1) - ah.tmod 5000 % 5000)), .int .i64 0, .int .i64 0, .string ns, .slice none 0 0] 35)) (some ⟨w7.heap.size, 0, none⟩) [((⟨false, false, (max 0 (1000 * ((i : Int) + 1) - ah.tmod 5000 % 5000)), 0, 0, nmI i, []⟩, sl0) : HcA)]) := hid (call_rowR ((((w7.setCell ⟨wr.heap.size + 1, 1, none⟩ (.bool false)).setCell ⟨wr.heap.size + 1, 3, none⟩ (.int .i64 0)).setCell ⟨wr.heap.size + 1, 4, none⟩ (.int .i64 0)).setCell ⟨wr.heap.size + 1, 6, none⟩ (.slice none 0 0)) ((⟨false, false, (max 0 (1000 * ((i : Int) + 1) - ah.tmod 5000 % 5000)), 0, 0, nmI i, []⟩, sl0) : HcA) ns HNs.out w7.heap.size (by simp))
                 have HB8 : Hid (RowKit.Below w.heap.size w (((((w7.setCell ⟨wr.heap.size + 1, 1, none⟩ (.bool false)).setCell ⟨wr.heap.size + 1, 3, none⟩ (.int .i64 0)).setCell ⟨wr.heap.size + 1, 4, none⟩ (.int .i64 0)).setCell ⟨wr.heap.size + 1, 6, none⟩ (.slice none 0 0)).alloc (.cells #[.bool false, .bool false, .int .i64 (max 0 (1000 * ((i : Int) + 1) - ah.tmod 5000 % 5000)), .int .i64 0, .int .i64 0, .string ns, .slice none 0 0] 35)) ∧ w.heap.size ≤ (((((w7.setCell ⟨wr.heap.size + 1, 1, none⟩ (.bool false)).setCell ⟨wr.heap.size + 1, 3, none⟩ (.int .i64 0)).setCell ⟨wr.heap.size + 1, 4, none⟩ (.int .i64 0)).setCell ⟨wr.heap.size + 1, 6, none⟩ (.slice none 0 0)).alloc (.cells #[.bool false, .bool false, .int .i64 (max 0 (1000 * ((i : Int) + 1) - ah.tmod 5000 % 5000)), .int .i64 0, .int .i64 0, .string ns, .slice none 0 0] 35)).heap.size) := hid (below_and ((((((HBl7.out.setCell (p := ⟨wr.heap.size + 1, _, none⟩) (by show w.heap.size ≤ wr.heap.size + 1; omega) _).setCell (p := ⟨wr.heap.size + 1, _, none⟩) (by show w.heap.size ≤ wr.heap.size + 1; omega) _).setCell (p := ⟨wr.heap.size + 1, _, none⟩) (by show w.heap.size ≤ wr.heap.size + 1; omega) _).setCell (p := ⟨wr.heap.size + 1, _, none⟩) (by show w.heap.size ≤ wr.heap.size + 1; omega) _)).alloc (by rw [hz8]; omega) _))
                 clear k6 k8 hk8 hz8
                 clear hO7 hG7 hat7 hz6 HSt6 HRs K6 K8 HB6)
              | (at_builtin
                 (with_reducible_and_instances (refine app_oneK kR_ok rfl _ _ rfl w.heap.size (.slice va A.length vc) A rfl HSt8.out.cs.row w7.heap.size ((⟨false, false, (max 0 (1000 * ((i : Int) + 1) - ah.tmod 5000 % 5000)), 0, 0, nmI i, []⟩, sl0) : HcA) rfl HR8.out HA1.out.1 HA1.out.2 HB8.out.2 ?_))
                 intro g9 c9 w9 hO9 hG9 hat9
                 have HSt9 := hid (HSt8.out.more (y := ((⟨false, false, (max 0 (1000 * ((i : Int) + 1) - ah.tmod 5000 % 5000)), 0, 0, nmI i, []⟩, sl0) : HcA)) HY8.out nil_apart ⟨by simp [maxLen, nmI], fun v hv => by cases hv⟩ hG9 hO9)
                 have HBl9 := hid (HB8.out.1.grown hG9 HB8.out.2 (fun k hk => (HSt8.out.cs.row.block k hk).1))
                 clear hO9 hG9 hat9))
            refine ⟨⟨i + 1, some ⟨g9, 0, none⟩, c9, some ⟨g7, 0, none⟩, c7, A ++ [((⟨false, false, (max 0 (1000 * ((i : Int) + 1) - ah.tmod 5000 % 5000)), 0, 0, nmI i, []⟩, sl0) : HcA)], by omega, by omega, by go_num, by rw [List.length_append]; rfl, ?_, Nat.le_trans HBl9.out.size (Nat.le_refl _), ?_, ?_, HBl9⟩, by simp [intOf]; omega⟩
            · rw [HTk.out, logH_snoc, hL]; show _ = Value.slice _ (L ++ [nmI (0 + (acts.take i).length)]).length _; rw [List.length_append]; rfl
            · have h := HSt9.out
              rw [HTk.out, logH_snoc, hL, List.length_append]
              show St _ _ _ _ (Value.slice _ (L ++ [nmI (0 + (acts.take i).length)]).length _) (L ++ [nmI (0 + (acts.take i).length)])
              rw [List.length_append, HTl.out]
              exact h
            · show cls (A ++ [_]) = _
              rw [HTk.out, hapN_snoc, hL, HTl.out, ← HNm.out]
              unfold cls
              rw [List.map_append]
              rfl
      · obtain rfl : i = 200 := by omega
        go_wp2_with fail
        go_ret
        exact ⟨va, A.length, vc, A, rfl, HSt.out.cs.hv kR_ok.tofit, HNm.out, HBl.out⟩
    · obtain rfl : m = i := by omega
      go_wp2_with fail
      go_ret
      refine ⟨va, A.length, vc, A, rfl, HSt.out.cs.hv kR_ok.tofit, ?_, HBl.out⟩
      rw [HNm.out, List.take_of_length_le (by rw [HL.out]; exact Nat.le_refl _), List.take_of_length_le (by rw [HL.out]; omega)]
end Go.Proofs.Ytpjemifoilbjeaa
