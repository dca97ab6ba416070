/- (*pairs.Map).Put and Delete. Conditions: at most 2^37 pairs, keys of at most 2^47 bytes. -/
import Derived.Test.YtpdcmgillinooaaPairMap
namespace Go.Proofs.Ytpdcmgillinooaa
open Go.RowKit

theorem Whole.set {w : World} {e : TypeId} {g : Nat} {xs : List Value} (h : Whole w e g xs) (i : Nat) (u : Value) : Whole (w.setCell ⟨g, i, none⟩ u) e g (xs.set i u) := by
  unfold Whole at *
  have hlt := lt_of_block h
  have h' : w.heap[g] = .cells xs.toArray e (0, 0) := by simpa [Array.getElem?_eq_getElem hlt] using h
  show (w.heap.modify g _)[g]? = _
  rw [Array.getElem?_eq_getElem (by simpa using hlt), Array.getElem_modify_self, h']
  simp

theorem keep_one (w : World) (b i : Nat) (u : Value) : Keep (fun k => k = b) w (w.setCell ⟨b, i, none⟩ u) :=
  ⟨rfl, rfl, rfl, by simp [World.setCell], fun k hk hs => Below.heap_setCell _ _ _ _ hs⟩

theorem Whole.frozen {w : World} {e : TypeId} {g i : Nat} {xs : List Value} (h : Whole w e g xs) : w.frozen? ⟨g, i, none⟩ = false := by unfold Whole at h; simp [World.frozen?, h]

theorem Keep.then_one {w w3 : World} {g i : Nat} {u : Value} (h : Keep (fun _ => False) w w3) : Keep (fun k => k = g) w (w3.setCell ⟨g, i, none⟩ u) :=
  (h.mono (T := fun k => k = g) (fun _ _ h => h.elim)).trans (keep_one _ _ _ _) (fun _ _ h => h)

/-- A block with a map's two rows. -/
def Pt (w : World) (g : Nat) (a b : Value) : Prop := w.heap[g]? = some (.cells #[a, b] 52 (0, 0))
theorem Pt.set0 {w : World} {g : Nat} {a b : Value} (h : Pt w g a b) (u : Value) : Pt (w.setCell ⟨g, 0, none⟩ u) g u b := by
  unfold Pt at *
  have hlt := lt_of_block h
  have h' : w.heap[g] = .cells #[a, b] 52 (0, 0) := by simpa [Array.getElem?_eq_getElem hlt] using h
  show (w.heap.modify g _)[g]? = _
  rw [Array.getElem?_eq_getElem (by simpa using hlt), Array.getElem_modify_self, h']
  simp
theorem Pt.set1 {w : World} {g : Nat} {a b : Value} (h : Pt w g a b) (u : Value) : Pt (w.setCell ⟨g, 1, none⟩ u) g a u := by
  unfold Pt at *
  have hlt := lt_of_block h
  have h' : w.heap[g] = .cells #[a, b] 52 (0, 0) := by simpa [Array.getElem?_eq_getElem hlt] using h
  show (w.heap.modify g _)[g]? = _
  rw [Array.getElem?_eq_getElem (by simpa using hlt), Array.getElem_modify_self, h']
  simp
theorem Pt.c0 {w : World} {g : Nat} {a b : Value} (h : Pt w g a b) : w.cell? ⟨g, 0, none⟩ = some a := by unfold Pt at h; simp [World.cell?, h]
theorem Pt.c1 {w : World} {g : Nat} {a b : Value} (h : Pt w g a b) : w.cell? ⟨g, 1, none⟩ = some b := by unfold Pt at h; simp [World.cell?, h]
theorem Pt.f {w : World} {g i : Nat} {a b : Value} (h : Pt w g a b) : w.frozen? ⟨g, i, none⟩ = false := by unfold Pt at h; simp [World.frozen?, h]
theorem Pt.keep {w w' : World} {g : Nat} {a b : Value} (h : Pt w g a b) (hb : Below w.heap.size w w') : Pt w' g a b := by
  unfold Pt at *
  rw [hb.block g (lt_of_block h)]
  exact h

/-- A row's value: the same, or in new memory. -/
def NewOr (w : World) (v v' : Value) : Prop := v' = v ∨ ∀ b, v'.ownBlock = some b → w.heap.size ≤ b

/-- The map as it is then. -/
structure Turned (w w' : World) (B g : Nat) (kv vv kv' vv' : Value) (ss' : List (ByteArray × Int)) : Prop where
  map : MapAt w' B g kv' vv' ss'
  kept : Keep (foot g vv) w w'
  nk : NewOr w kv kv'
  nv : NewOr w vv vv'

theorem Made.open2 {w w' : World} {e : TypeId} {v : Value} {xs : List Value} (h : Made w w' e v xs) : ∃ b n, v = .slice (some ⟨b, 0, none⟩) n n := by
  obtain ⟨g, rfl, _⟩ := h
  exact ⟨g, _, rfl⟩
theorem Made.row {w w' : World} {e : TypeId} {v : Value} {xs : List Value} (h : Made w w' e v xs) {B : Nat} (hB : B ≤ w.heap.size) : RowAt w' B e v xs := by
  obtain ⟨g, rfl, h1, h2, _⟩ := h
  exact Or.inr ⟨g, rfl, by omega, h2⟩
theorem Made.new {w w' : World} {e : TypeId} {v : Value} {xs : List Value} (h : Made w w' e v xs) : ∀ b, v.ownBlock = some b → w.heap.size ≤ b := by
  obtain ⟨g, rfl, h1, h2, _⟩ := h
  intro b hb
  obtain rfl : g = b := by simpa [Value.ownBlock] using hb
  exact h1
theorem Made.typ {w w' : World} {e : TypeId} {v : Value} {xs : List Value} (h : Made w w' e v xs) : ∀ b, v.ownBlock = some b → ∃ cs, w'.heap[b]? = some (.cells cs e (0, 0)) := by
  obtain ⟨g, rfl, h1, h2, _⟩ := h
  intro b hb
  obtain rfl : g = b := by simpa [Value.ownBlock] using hb
  exact ⟨_, h2⟩

theorem MapAt.vne {w : World} {B g : Nat} {kv vv : Value} {ss : List (ByteArray × Int)} (h : MapAt w B g kv vv ss) : ∀ b, vv.ownBlock = some b → b ≠ g := by
  rintro b hb rfl
  have := h.vs.typ b hb
  rw [h.blk] at this
  injection this with this
  injection this with _ ht
  exact absurd ht (by decide)
theorem MapAt.kne {w : World} {B g : Nat} {kv vv : Value} {ss : List (ByteArray × Int)} (h : MapAt w B g kv vv ss) : ∀ b, kv.ownBlock = some b → b ≠ g := by
  rintro b hb rfl
  have := h.ks.typ b hb
  rw [h.blk] at this
  injection this with this
  injection this with _ ht
  exact absurd ht (by decide)
theorem MapAt.kvne {w : World} {B g : Nat} {kv vv : Value} {ss : List (ByteArray × Int)} (h : MapAt w B g kv vv ss) : ∀ b, kv.ownBlock = some b → ¬ vv.ownBlock = some b := by
  intro b hb h2
  have h1 := h.ks.typ b hb
  rw [h.vs.typ b h2] at h1
  injection h1 with h1
  injection h1 with _ ht
  exact absurd ht (by decide)

theorem kcells_ins (ss : List (ByteArray × Int)) (a : Nat) (k : ByteArray) (z : Int) : kcells (ss.take a ++ (k, z) :: ss.drop a) = (kcells ss).take a ++ .string k :: (kcells ss).drop a := by
  simp [kcells, keysOf, List.map_take, List.map_drop]
theorem vcells_ins (ss : List (ByteArray × Int)) (a : Nat) (k : ByteArray) (z : Int) : vcells (ss.take a ++ (k, z) :: ss.drop a) = (vcells ss).take a ++ .int .u64 z :: (vcells ss).drop a := by
  simp [vcells, List.map_take, List.map_drop]
theorem kcells_cut (ss : List (ByteArray × Int)) (a : Nat) : kcells (ss.take a ++ ss.drop (a + 1)) = (kcells ss).take a ++ (kcells ss).drop (a + 1) := by
  simp [kcells, keysOf, List.map_take, List.map_drop]
theorem vcells_cut (ss : List (ByteArray × Int)) (a : Nat) : vcells (ss.take a ++ ss.drop (a + 1)) = (vcells ss).take a ++ (vcells ss).drop (a + 1) := by
  simp [vcells, List.map_take, List.map_drop]
theorem kcells_old (ss : List (ByteArray × Int)) (a : Nat) (ha : a < ss.length) (z : Int) : kcells (ss.take a ++ ((ntp ss a).1, z) :: ss.drop (a + 1)) = kcells ss := by
  have hs := congrArg kcells (split_at a ha)
  refine Eq.trans ?_ hs.symm
  rw [ntp_eq ha]
  simp only [kcells, keysOf, List.map_append, List.map_cons]
theorem vcells_old (ss : List (ByteArray × Int)) (a : Nat) (ha : a < ss.length) (k : ByteArray) (z : Int) : vcells (ss.take a ++ (k, z) :: ss.drop (a + 1)) = (vcells ss).set a (.int .u64 z) := by
  rw [List.set_eq_take_append_cons_drop, if_pos (by rw [vcells_len]; exact ha)]
  simp [vcells, List.map_take, List.map_drop]

/-- What Put and Delete tell, and the map behind them. -/
def PutGives (w w' : World) (e : Ending) (B g : Nat) (kv vv : Value) (r : Int × Bool) (P : List (ByteArray × Int) → Prop) : Prop :=
  ∃ kv' vv' ss', e = .returned (.tuple #[.int .u64 r.1, .bool r.2]) ∧ P ss' ∧ Turned w w' B g kv vv kv' vv' ss'

theorem turned_two {w w2 w3 w4 : World} {B g : Nat} {kv vv kv1 vv1 : Value} {ss ss' : List (ByteArray × Int)} (hm : MapAt w B g kv vv ss) (hB : B ≤ w.heap.size) (hb : Below w.heap.size w w2) (h1 : Made w2 w3 9 kv1 (kcells ss')) (h2 : Made (w3.setCell ⟨g, 0, none⟩ kv1) w4 29 vv1 (vcells ss')) :
    Turned w (w4.setCell ⟨g, 1, none⟩ vv1) B g kv vv kv1 vv1 ss' := by
  have hg : g < w.heap.size := lt_of_block hm.blk
  have s2 := hb.size
  have s3 := h1.below.size
  have s4 := h2.below.size
  have s5 : (w3.setCell ⟨g, 0, none⟩ kv1).heap.size = w3.heap.size := by simp [World.setCell]
  have k2 : Keep (foot g vv) w w2 := Keep.of_below hb _
  have k3 : Keep (foot g vv) w w3 := k2.trans (T := fun _ => False) (Keep.of_below h1.below _) (fun _ _ h => h.elim)
  have k4 : Keep (foot g vv) w (w3.setCell ⟨g, 0, none⟩ kv1) := k3.set (fun _ => Or.inl rfl) _
  have k5 : Keep (foot g vv) w w4 := k4.trans (T := fun _ => False) (Keep.of_below h2.below _) (fun _ _ h => h.elim)
  have k6 : Keep (foot g vv) w (w4.setCell ⟨g, 1, none⟩ vv1) := k5.set (fun _ => Or.inl rfl) _
  have p2 : Pt w2 g kv vv := Pt.keep hm.blk hb
  have p3 : Pt w3 g kv vv := p2.keep h1.below
  have p6 : Pt (w4.setCell ⟨g, 1, none⟩ vv1) g kv1 vv1 := ((p3.set0 kv1).keep h2.below).set1 vv1
  refine ⟨⟨p6, hm.low, ?_, ?_⟩, k6, Or.inr (fun b hbk => Nat.le_trans s2 (h1.new b hbk)), Or.inr (fun b hbk => by have := h2.new b hbk; omega)⟩
  · have r3 := h1.row (B := B) (by omega)
    have n1 := h1.new
    have r4 : RowAt (w3.setCell ⟨g, 0, none⟩ kv1) B 9 kv1 (kcells ss') := r3.keep (S := fun k => k = g) (keep_one _ _ _ _) (fun k hk e => by have := n1 k hk; omega)
    have r5 := r4.keep (S := fun _ => False) (Keep.of_below h2.below _) (fun _ _ h => h)
    exact r5.keep (S := fun k => k = g) (keep_one _ _ _ _) (fun k hk e => by have := n1 k hk; omega)
  · have r4 := h2.row (B := B) (by omega)
    have n2 := h2.new
    exact r4.keep (S := fun k => k = g) (keep_one _ _ _ _) (fun k hk e => by have := n2 k hk; omega)

theorem turned_set {w w2 : World} {B g b : Nat} {kv vv : Value} {ss : List (ByteArray × Int)} (hm : MapAt w B g kv vv ss) (hb : Below w.heap.size w w2) (a : Nat) (ha : a < ss.length) (z : Int) (hv : vv.ownBlock = some b) :
    Turned w (w2.setCell ⟨b, a, none⟩ (.int .u64 z)) B g kv vv kv vv (ss.take a ++ ((ntp ss a).1, z) :: ss.drop (a + 1)) := by
  have hg : g < w.heap.size := lt_of_block hm.blk
  have k2 : Keep (foot g vv) w w2 := Keep.of_below hb _
  have m2 := hm.keepB hb
  have hne := hm.vne b hv
  have kk : Keep (fun k => k = b) w2 (w2.setCell ⟨b, a, none⟩ (.int .u64 z)) := keep_one _ _ _ _
  refine ⟨⟨?_, hm.low, ?_, ?_⟩, k2.set (fun _ => Or.inr hv) _, Or.inl rfl, Or.inl rfl⟩
  · rw [kk.block g (lt_of_block m2.blk) (fun e => hne e.symm)]
    exact m2.blk
  · rw [kcells_old ss a ha]
    exact m2.ks.keep kk (fun k hk e => by subst e; exact hm.kvne _ hk hv)
  · rw [vcells_old ss a ha]
    rcases m2.vs with ⟨rfl, _⟩ | ⟨b', rfl, hB, hw⟩
    · cases hv
    · obtain rfl : b' = b := by simpa [Value.ownBlock] using hv
      refine Or.inr ⟨b', by simp, hB, hw.set _ _⟩

theorem There.put {ps ss : List (ByteArray × Int)} {k : ByteArray} {a : Nat} {z z' : Int} {ok : Bool} (h : There ss k a z ok) (hk : Kept ps ss) :
    (ok = true → Kept (delP ps k ++ [(k, z')]) (ss.take a ++ ((ntp ss a).1, z') :: ss.drop (a + 1)) ∧ a < ss.length) ∧ (ok = false → Kept (delP ps k ++ [(k, z')]) (ss.take a ++ (k, z') :: ss.drop a)) := by
  rcases h.2 with ⟨rfl, h1, h2, rfl⟩ | ⟨rfl, rfl, h1⟩
  · refine ⟨fun _ => ⟨?_, h1⟩, (fun h => by cases h)⟩
    rw [h2]
    rw [ntp_eq h1] at h2
    exact hk.put_old h.1 h1 h2 z'
  · refine ⟨(fun h => by cases h), fun _ => hk.put_new h.1 (fun hlt => by have := h1 hlt; rwa [ntp_eq hlt] at this) z'⟩

theorem There.zero {ss : List (ByteArray × Int)} {k : ByteArray} {a : Nat} {z : Int} (h : There ss k a z false) : z = 0 := by
  rcases h.2 with ⟨h, _⟩ | ⟨_, h, _⟩
  · cases h
  · exact h

set_option maxHeartbeats 4000000 in
theorem mput_any (B g : Nat) (kv vv : Value) (k : ByteArray) (z : Int) (ps ss : List (ByteArray × Int)) (w : World) (hm : MapAt w B g kv vv ss) (hB : B ≤ w.heap.size) (hf : Fine ss) (hk : k.size ≤ 140737488355328) (hp : Kept ps ss) :
    Calls Try.prog 10 #[.pointer (some ⟨g, 0, none⟩), .string k, .int .u64 z] w fun e w' => PutGives w w' e B g kv vv (getP ps k) (fun ss' => Kept (delP ps k ++ [(k, z)]) ss') := by
  have HF := Lib.hid (mfind_any B g kv vv k ss w hm hf hk)
  have HK := Lib.hid hp
  have HM := Lib.hid hm
  have HBB := Lib.hid hB
  have HL := hf.len
  obtain ⟨ao, hkv⟩ := hm.ks.open
  rw [kcells_len] at hkv
  subst hkv
  obtain ⟨bo, hvv⟩ := hm.vs.open
  rw [vcells_len] at hvv
  subst hvv
  have HKC := Lib.hid (kcells_one ss)
  have HVC := Lib.hid (vcells_one ss)
  clear hm hf hk hp hB
  obtain ⟨n, hL⟩ : ∃ n, n = ss.length := ⟨_, rfl⟩
  rw [← hL] at HM HL ⊢
  have HLN := Lib.hid hL
  clear hL
  go_enter Try.func10, Try.ntmps10
  go_wp2_with fail
  refine HF.out.mono ?_
  rintro e w2 ⟨at_, zz, ok, rfl, hT, hb⟩
  have HG := Lib.hid (hT.get HK.out)
  have HPUT := Lib.hid (hT.put (z' := z) HK.out)
  have HT := Lib.hid hT
  have hle : at_ ≤ n := by rw [HLN.out]; exact hT.1.1
  have HB := Lib.hid hb
  have M2 := Lib.hid (HM.out.keepB hb)
  have c0 := M2.out.c0
  have c1 := M2.out.c1
  clear hT hb
  cases ok with
  | true =>
    have hP := HPUT.out.1 rfl
    have hlt : at_ < n := by rw [HLN.out]; exact hP.2
    have HP := Lib.hid hP
    obtain ⟨b, hvb, hblk, hc⟩ := M2.out.vs.u64 at_ hP.2
    have hbo : bo = some ⟨b, 0, none⟩ := by injection hvb
    subst hbo
    have hfz : w2.frozen? ⟨b, at_, none⟩ = false := Whole.frozen hblk
    have g1 : (at_ : Int) < n := by omega
    have HTN := Lib.hid (turned_set HM.out HB.out at_ hP.2 z rfl)
    clear hP hvb hblk hle c0
    go_wp2
    go_ret2
    exact ⟨.slice ao n n, .slice (some ⟨b, 0, none⟩) n n, _, by rw [HG.out]; rfl, HP.out.1, HTN.out⟩
  | false =>
    have hP := HPUT.out.2 rfl
    obtain rfl := HT.out.zero
    have HP := Lib.hid hP
    have f0 := M2.out.f (i := 0)
    have f1 := M2.out.f (i := 1)
    have HA := Lib.hid (fun W (h : RowAt W B 9 (.slice ao n n) (kcells ss)) => addStr_yes ao n n at_ k (kcells ss) W (h.rd (by rw [kcells_len]; have := HLN.out; omega)) HKC.out (by omega) hle)
    have HV := Lib.hid (fun W (h : RowAt W B 29 (.slice bo n n) (vcells ss)) => addU64_yes bo n n at_ z (vcells ss) W (h.rd (by rw [vcells_len]; have := HLN.out; omega)) HVC.out (by omega) hle)
    clear hP hle
    go_wp2_with fail
    refine (HA.out w2 M2.out.ks).mono ?_
    rintro e w3 ⟨kv1, rfl, hmd⟩
    rw [← kcells_ins ss at_ k z] at hmd
    obtain ⟨kb, kn, rfl⟩ := hmd.open2
    have HMD := Lib.hid hmd
    have P3 := Lib.hid (Pt.keep M2.out.blk hmd.below)
    have V3 := Lib.hid (M2.out.vs.keep (S := fun k => k = g) ((Keep.of_below hmd.below (fun _ => False)).then_one (i := 0) (u := .slice (some ⟨kb, 0, none⟩) kn kn)) (fun k hk e => M2.out.vne k hk e))
    have d0 := P3.out.c0
    have e0 := P3.out.f (i := 0)
    have d1 := (P3.out.set0 (.slice (some ⟨kb, 0, none⟩) kn kn)).c1
    have e1 := (P3.out.set0 (.slice (some ⟨kb, 0, none⟩) kn kn)).f (i := 1)
    clear hmd c0 c1 f0 f1
    go_wp2_with fail
    refine (HV.out _ V3.out).mono ?_
    rintro e w4 ⟨vv1, rfl, hmv⟩
    rw [← vcells_ins ss at_ k z] at hmv
    obtain ⟨vb, vn, rfl⟩ := hmv.open2
    have HMV := Lib.hid hmv
    have P4 := Lib.hid ((P3.out.set0 (.slice (some ⟨kb, 0, none⟩) kn kn)).keep hmv.below)
    have q1 := P4.out.f (i := 1)
    have q0 := P4.out.c1
    have HTN := Lib.hid (turned_two HM.out HBB.out HB.out HMD.out HMV.out)
    clear hmv d0 e0 d1 e1
    go_wp2
    go_ret2
    refine ⟨_, _, _, ?_, HP.out, HTN.out⟩
    rw [HG.out]; rfl

theorem There.del {ps ss : List (ByteArray × Int)} {k : ByteArray} {a : Nat} {z : Int} {ok : Bool} (h : There ss k a z ok) (hk : Kept ps ss) :
    (ok = true → Kept (delP ps k) (ss.take a ++ ss.drop (a + 1)) ∧ a < ss.length) ∧ (ok = false → Kept (delP ps k) ss) := by
  rcases h.2 with ⟨rfl, h1, h2, rfl⟩ | ⟨rfl, rfl, h1⟩
  · refine ⟨fun _ => ⟨?_, h1⟩, (fun h => by cases h)⟩
    rw [ntp_eq h1] at h2
    exact hk.del_old h1 h2
  · exact ⟨(fun h => by cases h), fun _ => hk.del_new h.1 (fun hlt => by have := h1 hlt; rwa [ntp_eq hlt] at this)⟩

set_option maxHeartbeats 4000000 in
theorem mdel_any (B g : Nat) (kv vv : Value) (k : ByteArray) (ps ss : List (ByteArray × Int)) (w : World) (hm : MapAt w B g kv vv ss) (hB : B ≤ w.heap.size) (hf : Fine ss) (hk : k.size ≤ 140737488355328) (hp : Kept ps ss) :
    Calls Try.prog 12 #[.pointer (some ⟨g, 0, none⟩), .string k] w fun e w' => PutGives w w' e B g kv vv (getP ps k) (fun ss' => Kept (delP ps k) ss') := by
  have HF := Lib.hid (mfind_any B g kv vv k ss w hm hf hk)
  have HK := Lib.hid hp
  have HM := Lib.hid hm
  have HBB := Lib.hid hB
  have HL := hf.len
  obtain ⟨ao, hkv⟩ := hm.ks.open
  rw [kcells_len] at hkv
  subst hkv
  obtain ⟨bo, hvv⟩ := hm.vs.open
  rw [vcells_len] at hvv
  subst hvv
  have HKC := Lib.hid (kcells_one ss)
  have HVC := Lib.hid (vcells_one ss)
  clear hm hf hk hp hB
  obtain ⟨n, hL⟩ : ∃ n, n = ss.length := ⟨_, rfl⟩
  rw [← hL] at HM HL ⊢
  have HLN := Lib.hid hL
  clear hL
  go_enter Try.func12, Try.ntmps12
  go_wp2_with fail
  refine HF.out.mono ?_
  rintro e w2 ⟨at_, zz, ok, rfl, hT, hb⟩
  have HG := Lib.hid (hT.get HK.out)
  have HDEL := Lib.hid (hT.del HK.out)
  have HB := Lib.hid hb
  have M2 := Lib.hid (HM.out.keepB hb)
  have c0 := M2.out.c0
  have c1 := M2.out.c1
  clear hT hb
  cases ok with
  | false =>
    have HP := Lib.hid (HDEL.out.2 rfl)
    clear c0 c1
    go_wp2
    go_ret2
    refine ⟨_, _, _, ?_, HP.out, M2.out, Keep.of_below HB.out _, Or.inl rfl, Or.inl rfl⟩
    rw [HG.out]; rfl
  | true =>
    have hP := HDEL.out.1 rfl
    have hlt : at_ < n := by rw [HLN.out]; exact hP.2
    have HP := Lib.hid hP
    have f0 := M2.out.f (i := 0)
    have f1 := M2.out.f (i := 1)
    have HA := Lib.hid (fun W (h : RowAt W B 9 (.slice ao n n) (kcells ss)) => cutStr_yes ao n n at_ (kcells ss) W (h.rd (by rw [kcells_len]; have := HLN.out; omega)) HKC.out (by omega) hlt)
    have HV := Lib.hid (fun W (h : RowAt W B 29 (.slice bo n n) (vcells ss)) => cutU64_yes bo n n at_ (vcells ss) W (h.rd (by rw [vcells_len]; have := HLN.out; omega)) HVC.out (by omega) hlt)
    clear hP hlt
    go_wp2_with fail
    refine (HA.out w2 M2.out.ks).mono ?_
    rintro e w3 ⟨kv1, rfl, hmd⟩
    rw [← kcells_cut ss at_] at hmd
    obtain ⟨kb, kn, rfl⟩ := hmd.open2
    have HMD := Lib.hid hmd
    have P3 := Lib.hid (Pt.keep M2.out.blk hmd.below)
    have V3 := Lib.hid (M2.out.vs.keep (S := fun k => k = g) ((Keep.of_below hmd.below (fun _ => False)).then_one (i := 0) (u := .slice (some ⟨kb, 0, none⟩) kn kn)) (fun k hk e => M2.out.vne k hk e))
    have d0 := P3.out.c0
    have e0 := P3.out.f (i := 0)
    have d1 := (P3.out.set0 (.slice (some ⟨kb, 0, none⟩) kn kn)).c1
    have e1 := (P3.out.set0 (.slice (some ⟨kb, 0, none⟩) kn kn)).f (i := 1)
    clear hmd c0 c1 f0 f1
    go_wp2_with fail
    refine (HV.out _ V3.out).mono ?_
    rintro e w4 ⟨vv1, rfl, hmv⟩
    rw [← vcells_cut ss at_] at hmv
    obtain ⟨vb, vn, rfl⟩ := hmv.open2
    have HMV := Lib.hid hmv
    have P4 := Lib.hid ((P3.out.set0 (.slice (some ⟨kb, 0, none⟩) kn kn)).keep hmv.below)
    have q1 := P4.out.f (i := 1)
    have q0 := P4.out.c1
    have HTN := Lib.hid (turned_two HM.out HBB.out HB.out HMD.out HMV.out)
    clear hmv d0 e0 d1 e1
    go_wp2
    go_ret2
    refine ⟨_, _, _, ?_, HP.out.1, HTN.out⟩
    rw [HG.out]; rfl

theorem mput_nil (k : ByteArray) (z : Int) (w : World) :
    Calls Try.prog 10 #[.pointer none, .string k, .int .u64 z] w fun e w' => e = .returned (.tuple #[.int .u64 0, .bool false]) ∧ w = w' := by
  go_enter Try.func10, Try.ntmps10
  go_wp2
  go_ret2
  exact ⟨rfl, rfl⟩

set_option maxHeartbeats 1000000 in
theorem mdel_nil (k : ByteArray) (w : World) :
    Calls Try.prog 12 #[.pointer none, .string k] w fun e w' => e = .returned (.tuple #[.int .u64 0, .bool false]) ∧ w = w' := by
  have HF : Hid (Calls Try.prog 25 #[.pointer none, .string k] w fun e w' => e = .returned (.tuple #[.int .i64 0, .int .u64 0, .bool false]) ∧ w = w') := by
    go_enter Try.func25, Try.ntmps25
    go_wp2
    exact bodyPost_ret (v := .tuple #[.int .i64 0, .int .u64 0, .bool false]) (by simp [results, Try.results25, go_sem]) rfl ⟨rfl, rfl⟩
  go_enter Try.func12, Try.ntmps12
  go_wp2_with fail
  refine HF.out.mono ?_
  rintro e w2 ⟨rfl, rfl⟩
  go_wp2
  go_ret2
  exact ⟨rfl, rfl⟩
end Go.Proofs.Ytpdcmgillinooaa
