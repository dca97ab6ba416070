/- A map of pairs as it lies in memory; (*pairs.Map).find, Get, Len. Conditions: at most 2^37 pairs, keys of at most 2^47 bytes. -/
import Derived.Test.YtpdcmgillinooaaPairState
import Derived.Test.YtpdcmgillinooaaFindP
import Derived.Test.YtpdcmgillinooaaOpsStr
import Derived.Test.YtpdcmgillinooaaOpsU64
namespace Go.Proofs.Ytpdcmgillinooaa
open Go.RowKit

/-- All blocks but those of S are as they were. -/
structure Keep (S : Nat → Prop) (w w' : World) : Prop where
  os : w'.os = w.os
  tape : w'.tape = w.tape
  output : w'.output = w.output
  size : w.heap.size ≤ w'.heap.size
  block : ∀ k, k < w.heap.size → ¬ S k → w'.heap[k]? = w.heap[k]?

theorem Keep.of_below {w w' : World} (h : Below w.heap.size w w') (S : Nat → Prop) : Keep S w w' := ⟨h.os, h.tape, h.output, h.size, fun k hk _ => h.block k hk⟩
theorem Keep.below {S : Nat → Prop} {w w' : World} {B : Nat} (h : Keep S w w') (hB : B ≤ w.heap.size) (hS : ∀ k, S k → B ≤ k) : Below B w w' :=
  ⟨h.os, h.tape, h.output, h.size, fun k hk => h.block k (by omega) (fun s => by have := hS k s; omega)⟩
theorem Keep.trans {S T : Nat → Prop} {a b c : World} (h : Keep S a b) (k : Keep T b c) (hT : ∀ i, i < a.heap.size → T i → S i) : Keep S a c :=
  ⟨k.os.trans h.os, k.tape.trans h.tape, k.output.trans h.output, Nat.le_trans h.size k.size, fun i hi hs => (k.block i (Nat.lt_of_lt_of_le hi h.size) (fun ht => hs (hT i hi ht))).trans (h.block i hi hs)⟩
theorem Keep.set {S : Nat → Prop} {a b : World} (h : Keep S a b) {p : Addr} (hp : p.block < a.heap.size → S p.block) (u : Value) : Keep S a (b.setCell p u) :=
  h.trans (T := fun k => k = p.block) ⟨rfl, rfl, rfl, by simp [World.setCell], fun k hk hs => Below.heap_setCell _ _ _ _ hs⟩ (fun i hi e => by subst e; exact hp hi)
theorem Keep.mono {S T : Nat → Prop} {a b : World} (h : Keep S a b) (hT : ∀ i, i < a.heap.size → S i → T i) : Keep T a b :=
  ⟨h.os, h.tape, h.output, h.size, fun k hk ht => h.block k hk (fun s => ht (hT k hk s))⟩

/-- A row that is nil, or lies whole in a block of its own. -/
def RowAt (w : World) (B : Nat) (e : TypeId) (v : Value) (xs : List Value) : Prop :=
  (v = .slice none 0 0 ∧ xs = []) ∨ ∃ g, v = .slice (some ⟨g, 0, none⟩) xs.length xs.length ∧ B ≤ g ∧ Whole w e g xs

theorem RowAt.rd {w : World} {B : Nat} {e : TypeId} {v : Value} {xs : List Value} (h : RowAt w B e v xs) (hl : xs.length ≤ 9223372036854775807) : Rd w v xs := by
  rcases h with ⟨rfl, rfl⟩ | ⟨g, rfl, _, h⟩
  · exact Rd.nil w
  · exact h.rd hl

theorem RowAt.keep {S : Nat → Prop} {w w' : World} {B : Nat} {e : TypeId} {v : Value} {xs : List Value} (h : RowAt w B e v xs) (hk : Keep S w w') (hs : ∀ k, v.ownBlock = some k → ¬ S k) : RowAt w' B e v xs := by
  rcases h with h | ⟨g, rfl, hB, h⟩
  · exact Or.inl h
  · refine Or.inr ⟨g, rfl, hB, ?_⟩
    unfold Whole at *
    rw [hk.block g (lt_of_block h) (hs g rfl)]
    exact h

theorem RowAt.low {w : World} {B : Nat} {e : TypeId} {v : Value} {xs : List Value} (h : RowAt w B e v xs) : ∀ k, v.ownBlock = some k → B ≤ k ∧ k < w.heap.size := by
  rcases h with ⟨rfl, rfl⟩ | ⟨g, rfl, hB, h⟩
  · intro k hk; cases hk
  · intro k hk
    obtain rfl : g = k := by simpa [Value.ownBlock] using hk
    exact ⟨hB, lt_of_block h⟩

theorem RowAt.typ {w : World} {B : Nat} {e : TypeId} {v : Value} {xs : List Value} (h : RowAt w B e v xs) : ∀ k, v.ownBlock = some k → w.heap[k]? = some (.cells xs.toArray e (0, 0)) := by
  rcases h with ⟨rfl, rfl⟩ | ⟨g, rfl, hB, h⟩
  · intro k hk; cases hk
  · intro k hk
    obtain rfl : g = k := by simpa [Value.ownBlock] using hk
    exact h

theorem RowAt.base {w : World} {B C : Nat} {e : TypeId} {v : Value} {xs : List Value} (h : RowAt w C e v xs) (hBC : B ≤ C) : RowAt w B e v xs := by
  rcases h with h | ⟨g, rfl, hB, h⟩
  · exact Or.inl h
  · exact Or.inr ⟨g, rfl, by omega, h⟩

def keysOf (ss : List (ByteArray × Int)) : List ByteArray := ss.map Prod.fst
theorem keysOf_len (ss : List (ByteArray × Int)) : (keysOf ss).length = ss.length := by simp [keysOf]
theorem keysOf_at {ss : List (ByteArray × Int)} {i : Nat} (h : i < ss.length) : nth (keysOf ss) i = ss[i].1 := by
  rw [nth_eq (by rw [keysOf_len]; exact h)]
  simp [keysOf]
def kcells (ss : List (ByteArray × Int)) : List Value := (keysOf ss).map Value.string
def vcells (ss : List (ByteArray × Int)) : List Value := ss.map fun p => .int .u64 p.2
theorem kcells_len (ss : List (ByteArray × Int)) : (kcells ss).length = ss.length := by simp [kcells, keysOf]
theorem vcells_len (ss : List (ByteArray × Int)) : (vcells ss).length = ss.length := by simp [vcells]
theorem kcells_one (ss : List (ByteArray × Int)) : ∀ u ∈ kcells ss, u.oneCell' = true := by
  intro u hu; simp [kcells, keysOf] at hu; obtain ⟨a, _, rfl⟩ := hu; rfl
theorem vcells_one (ss : List (ByteArray × Int)) : ∀ u ∈ vcells ss, u.oneCell' = true := by
  intro u hu; simp [vcells] at hu; obtain ⟨a, _, _, rfl⟩ := hu; rfl

/-- A map in memory: its block, its keys' row and its values'. -/
structure MapAt (w : World) (B g : Nat) (kv vv : Value) (ss : List (ByteArray × Int)) : Prop where
  blk : w.heap[g]? = some (.cells #[kv, vv] 52 (0, 0))
  low : B ≤ g
  ks : RowAt w B 9 kv (kcells ss)
  vs : RowAt w B 29 vv (vcells ss)

/-- What is asked of its pairs. -/
structure Fine (ss : List (ByteArray × Int)) : Prop where
  rise : RiseP ss
  len : ss.length ≤ 137438953472
  size : ∀ p ∈ ss, p.1.size ≤ 140737488355328

def foot (g : Nat) (vv : Value) : Nat → Prop := fun k => k = g ∨ vv.ownBlock = some k

theorem MapAt.keep {S : Nat → Prop} {w w' : World} {B g : Nat} {kv vv : Value} {ss : List (ByteArray × Int)} (h : MapAt w B g kv vv ss) (hk : Keep S w w') (h1 : ¬ S g) (h2 : ∀ k, kv.ownBlock = some k → ¬ S k) (h3 : ∀ k, vv.ownBlock = some k → ¬ S k) : MapAt w' B g kv vv ss :=
  ⟨by rw [hk.block g (lt_of_block h.blk) h1]; exact h.blk, h.low, h.ks.keep hk h2, h.vs.keep hk h3⟩

theorem MapAt.keepB {w w' : World} {B g : Nat} {kv vv : Value} {ss : List (ByteArray × Int)} (h : MapAt w B g kv vv ss) (hb : Below w.heap.size w w') : MapAt w' B g kv vv ss :=
  h.keep (Keep.of_below hb (fun _ => False)) (fun h => h) (fun _ _ h => h) (fun _ _ h => h)

/-- A row of pairs stays where a map is written. -/
theorem OwnP.keepM {w w' : World} {B C g : Nat} {v kv vv : Value} {ps ss : List (ByteArray × Int)} (h : OwnP w C v ps) (hm : MapAt w B g kv vv ss) (hk : Keep (foot g vv) w w') : OwnP w' C v ps := by
  refine ⟨h.1, ?_⟩
  rcases h.2 with hn | ⟨b, cap, cur, rfl, hbg, hg, rest⟩
  · exact Or.inl hn
  · refine Or.inr ⟨b, cap, cur, rfl, hbg, ?_, rest⟩
    rw [hk.block b (lt_of_block hg)]
    · exact hg
    · rintro (rfl | h2)
      · rw [hm.blk] at hg
        injection hg with hg
        injection hg with _ ht
        exact absurd ht (by decide)
      · rw [hm.vs.typ b h2] at hg
        injection hg with hg
        injection hg with _ ht
        exact absurd ht (by decide)

theorem MapAt.c0 {w : World} {B g : Nat} {kv vv : Value} {ss : List (ByteArray × Int)} (h : MapAt w B g kv vv ss) : w.cell? ⟨g, 0, none⟩ = some kv := by simp [World.cell?, h.blk]
theorem MapAt.c1 {w : World} {B g : Nat} {kv vv : Value} {ss : List (ByteArray × Int)} (h : MapAt w B g kv vv ss) : w.cell? ⟨g, 1, none⟩ = some vv := by simp [World.cell?, h.blk]
theorem MapAt.f {w : World} {B g i : Nat} {kv vv : Value} {ss : List (ByteArray × Int)} (h : MapAt w B g kv vv ss) : w.frozen? ⟨g, i, none⟩ = false := by simp [World.frozen?, h.blk]

theorem Fine.rises {ss : List (ByteArray × Int)} (h : Fine ss) : Rises (keysOf ss) := by
  intro i hi
  have hl := keysOf_len ss
  have := rise_lt h.rise i (i + 1) (by omega) (by omega)
  rw [← nth_eq (by omega), ← nth_eq hi, keysOf_at (by omega), keysOf_at (by omega)]
  exact this

theorem place_of {ss : List (ByteArray × Int)} {k : ByteArray} {a : Nat} (h : Edge (keysOf ss).length a (pFind (keysOf ss) k)) : Place ss k a := by
  rw [keysOf_len] at h
  refine ⟨h.1, fun i hi hia => ?_, fun i hi hai => ?_⟩
  · have := h.2.1 i hia
    unfold pFind at this
    rw [keysOf_at hi] at this
    simpa using this
  · have := h.2.2 i hai hi
    unfold pFind at this
    rw [keysOf_at hi] at this
    simpa using this

/-- What find tells. -/
def There (ss : List (ByteArray × Int)) (k : ByteArray) (at_ : Nat) (z : Int) (ok : Bool) : Prop :=
  Place ss k at_ ∧ ((ok = true ∧ at_ < ss.length ∧ (ntp ss at_).1 = k ∧ z = (ntp ss at_).2) ∨ (ok = false ∧ z = 0 ∧ (at_ < ss.length → (ntp ss at_).1 ≠ k)))

def FindGives (w w' : World) (e : Ending) (ss : List (ByteArray × Int)) (k : ByteArray) : Prop :=
  ∃ (at_ : Nat) (z : Int) (ok : Bool), e = .returned (.tuple #[.int .i64 at_, .int .u64 z, .bool ok]) ∧ There ss k at_ z ok ∧ Below w.heap.size w w'

theorem RowAt.u64 {w : World} {B : Nat} {v : Value} {ss : List (ByteArray × Int)} (h : RowAt w B 29 v (vcells ss)) (i : Nat) (hi : i < ss.length) : ∃ b, v = .slice (some ⟨b, 0, none⟩) ss.length ss.length ∧ w.heap[b]? = some (.cells (vcells ss).toArray 29 (0, 0)) ∧ w.cell? ⟨b, i, none⟩ = some (.int .u64 (ntp ss i).2) := by
  rcases h with ⟨rfl, h⟩ | ⟨b, rfl, _, h⟩
  · have := vcells_len ss; rw [h] at this; simp at this; omega
  · rw [vcells_len]
    refine ⟨b, rfl, h, ?_⟩
    rw [h.cell, ntp_eq hi]
    simp [vcells, hi]

theorem RowAt.str {w : World} {B : Nat} {v : Value} {ss : List (ByteArray × Int)} (h : RowAt w B 9 v (kcells ss)) (i : Nat) (hi : i < ss.length) : ∃ b, v = .slice (some ⟨b, 0, none⟩) ss.length ss.length ∧ w.heap[b]? = some (.cells (kcells ss).toArray 9 (0, 0)) ∧ w.cell? ⟨b, i, none⟩ = some (.string (ntp ss i).1) := by
  rcases h with ⟨rfl, h⟩ | ⟨b, rfl, _, h⟩
  · have := kcells_len ss; rw [h] at this; simp at this; omega
  · rw [kcells_len]
    refine ⟨b, rfl, h, ?_⟩
    rw [h.cell, ntp_eq hi]
    simp [kcells, keysOf, hi]

theorem RowAt.open {w : World} {B : Nat} {e : TypeId} {v : Value} {xs : List Value} (h : RowAt w B e v xs) : ∃ ao, v = .slice ao xs.length xs.length := by
  rcases h with ⟨rfl, rfl⟩ | ⟨g, rfl, _, h⟩
  · exact ⟨none, rfl⟩
  · exact ⟨_, rfl⟩

set_option maxHeartbeats 2000000 in
theorem mfind_any (B g : Nat) (kv vv : Value) (k : ByteArray) (ss : List (ByteArray × Int)) (w : World) (hm : MapAt w B g kv vv ss) (hf : Fine ss) (hk : k.size ≤ 140737488355328) :
    Calls Try.prog 25 #[.pointer (some ⟨g, 0, none⟩), .string k] w fun e w' => FindGives w w' e ss k := by
  have hF := find_any kv k (keysOf ss) w (hm.ks.rd (by have := hf.len; rw [kcells_len]; omega)) hk (by
    intro x hx
    obtain ⟨p, hp, rfl⟩ := List.mem_map.1 hx
    exact hf.size p hp) (by have := hf.len; rw [keysOf_len]; omega) hf.rises
  have HF := Lib.hid hF
  have HM := Lib.hid hm
  have HL := hf.len
  obtain ⟨ao, hkv⟩ := hm.ks.open
  rw [kcells_len] at hkv
  subst hkv
  obtain ⟨bo, hvv⟩ := hm.vs.open
  rw [vcells_len] at hvv
  subst hvv
  have c0 := hm.c0
  clear hF hf hm hk
  obtain ⟨n, hL⟩ : ∃ n, n = ss.length := ⟨_, rfl⟩
  rw [← hL] at HF HM HL c0
  have HLN := Lib.hid hL
  clear hL
  go_enter Try.func25, Try.ntmps25
  go_wp2_with fail
  refine HF.out.mono ?_
  rintro e w2 ⟨at_, is, rfl, hE, his, hb⟩
  have hpl := place_of hE
  have hle := hpl.1
  have HP := Lib.hid hpl
  have HI := Lib.hid his
  have HB := Lib.hid hb
  have HM2 := Lib.hid (HM.out.keepB hb)
  clear hpl his hE hb
  cases is with
  | false =>
    go_wp2
    refine bodyPost_ret (v := .tuple #[.int .i64 at_, .int .u64 0, .bool false]) (by simp [results, Try.results25, go_sem]) rfl ⟨at_, 0, false, rfl, ⟨HP.out, Or.inr ⟨rfl, rfl, fun h e => ?_⟩⟩, HB.out⟩
    have := HI.out.2 ⟨by rw [keysOf_len]; exact h, by rw [keysOf_at h, ← ntp_eq h]; exact e⟩
    cases this
  | true =>
    have hi := HI.out.1 rfl
    have hlt : at_ < ss.length := by have := hi.1; rwa [keysOf_len] at this
    have hkey : (ntp ss at_).1 = k := by
      have := hi.2
      rw [keysOf_at hlt] at this
      rw [ntp_eq hlt]
      exact this
    have HK := Lib.hid hkey
    have hlt2 : at_ < n := by rw [HLN.out]; exact hlt
    obtain ⟨b, hvb, hblk, hc⟩ := HM2.out.vs.u64 at_ hlt
    have hbo : bo = some ⟨b, 0, none⟩ := by injection hvb
    subst hbo
    have d1 := HM2.out.c1
    have g1 : (at_ : Int) < n := by omega
    have HH := Lib.hid (show There ss k at_ (ntp ss at_).2 true from ⟨HP.out, Or.inl ⟨rfl, hlt, hkey, rfl⟩⟩)
    clear hi hkey hlt hvb hblk hle
    generalize (ntp ss at_).2 = z at *
    go_wp2
    go_quiet (fail)
    go_wp2
    refine bodyPost_ret (v := .tuple #[.int .i64 at_, .int .u64 z, .bool true]) (by simp [results, Try.results25, go_sem]) rfl ⟨at_, z, true, rfl, HH.out, HB.out.trans (drew_below ⟨_, rfl⟩ _)⟩

def GetGives (w w' : World) (e : Ending) (z : Int) (ok : Bool) : Prop := e = .returned (.tuple #[.int .u64 z, .bool ok]) ∧ Below w.heap.size w w'

theorem There.get {ps ss : List (ByteArray × Int)} {k : ByteArray} {a : Nat} {z : Int} {ok : Bool} (h : There ss k a z ok) (hk : Kept ps ss) : getP ps k = (z, ok) := by
  rcases h.2 with ⟨rfl, h1, h2, rfl⟩ | ⟨rfl, rfl, h1⟩
  · rw [ntp_eq h1] at h2 ⊢
    exact hk.get_old h1 h2
  · exact hk.get_new h.1 (fun hlt => by have := h1 hlt; rwa [ntp_eq hlt] at this)

set_option maxHeartbeats 1000000 in
theorem mget_any (B g : Nat) (kv vv : Value) (k : ByteArray) (ps ss : List (ByteArray × Int)) (w : World) (hm : MapAt w B g kv vv ss) (hf : Fine ss) (hk : k.size ≤ 140737488355328) (hp : Kept ps ss) :
    Calls Try.prog 15 #[.pointer (some ⟨g, 0, none⟩), .string k] w fun e w' => GetGives w w' e (getP ps k).1 (getP ps k).2 := by
  have HF := Lib.hid (mfind_any B g kv vv k ss w hm hf hk)
  have HK := Lib.hid hp
  clear hm hf hk hp
  go_enter Try.func15, Try.ntmps15
  go_wp2_with fail
  refine HF.out.mono ?_
  rintro e w2 ⟨at_, z, ok, rfl, hT, hb⟩
  have hg := hT.get HK.out
  have HG := Lib.hid hg
  have HB := Lib.hid hb
  clear hT hg hb
  go_wp2
  go_ret2
  exact ⟨by rw [HG.out]; rfl, HB.out⟩

set_option maxHeartbeats 1000000 in
theorem mget_nil (k : ByteArray) (w : World) :
    Calls Try.prog 15 #[.pointer none, .string k] w fun e w' => GetGives w w' e 0 false := by
  have HF : Hid (Calls Try.prog 25 #[.pointer none, .string k] w fun e w' => e = .returned (.tuple #[.int .i64 0, .int .u64 0, .bool false]) ∧ w = w') := by
    go_enter Try.func25, Try.ntmps25
    go_wp2
    exact bodyPost_ret (v := .tuple #[.int .i64 0, .int .u64 0, .bool false]) (by simp [results, Try.results25, go_sem]) rfl ⟨rfl, rfl⟩
  go_enter Try.func15, Try.ntmps15
  go_wp2_with fail
  refine HF.out.mono ?_
  rintro e w2 ⟨rfl, rfl⟩
  go_wp2
  go_ret2
  exact ⟨rfl, Below.refl _ _⟩
end Go.Proofs.Ytpdcmgillinooaa
