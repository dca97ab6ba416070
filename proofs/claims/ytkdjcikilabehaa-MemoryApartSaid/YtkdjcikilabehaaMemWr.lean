/- memory.written, of a memory in the world. Condition: there is such a cell. -/
import Derived.Test.YtkdjcikilabehaaMemSt
namespace Go.Proofs.Ytkdjcikilabehaa
open Go.RowKit

/-- The blocks behind a write of a cell. -/
def usedB (A : Nat) (B : List Bl) (i : Nat) : List Bl := if A ≤ i ∧ i < 2 * A then B.set (i - A) Bl.zero else B
/-- What an access leaves. -/
def Done (w w' : World) (e : Ending) (p o cb cg bg rg A T : Nat) (l : List (Nat × Nat)) (B : List Bl) (R : List OpV) (v : Value) : Prop :=
  e = .returned v ∧ MemAt w' p o cb cg bg rg A T l B R ∧ Keep (fun k => k = cg ∨ k = bg ∨ k = rg) w w'
def OkV : Value := .agg #[.bool true, .int .u64 0, .int .u64 0, .int .i64 0, .int .i64 0, .string ⟨#[]⟩, .string ⟨#[]⟩, .bool false, .int .i64 0, .slice none 0 0, .slice none 0 0, .slice none 0 0, .int .i64 0, .int .i64 0, .string ⟨#[]⟩, .int .u64 0, .slice none 0 0, .slice none 0 0, .slice none 0 0, .slice none 0 0, .int .i64 0, .string ⟨#[]⟩, .string ⟨#[]⟩, .int .u64 0, .int .i64 0]
def NoV : Value := .agg #[.bool false, .int .u64 0, .int .u64 0, .int .i64 0, .int .i64 0, .string ⟨#[]⟩, .string ⟨#[]⟩, .bool false, .int .i64 0, .slice none 0 0, .slice none 0 0, .slice none 0 0, .int .i64 0, .int .i64 0, .string ⟨#[]⟩, .int .u64 0, .slice none 0 0, .slice none 0 0, .slice none 0 0, .slice none 0 0, .int .i64 0, .string ⟨#[]⟩, .string ⟨#[]⟩, .int .u64 0, .int .i64 0]
section
variable {w w' : World} {p o cb cg bg rg A T : Nat} {l l' : List (Nat × Nat)} {B B' : List Bl} {R R' : List OpV}
theorem MemAt.ltA (h : MemAt w p o cb cg bg rg A T l B R) : (p < w.heap.size ∧ o < w.heap.size ∧ cb < w.heap.size) ∧ cg < w.heap.size ∧ bg < w.heap.size ∧ rg < w.heap.size := ⟨⟨h.p.lt, h.m.blk.lt, h.c.blk.lt⟩, h.c.row.lt, h.b.lt, h.r.lt⟩
theorem MemAt.setB (h : MemAt w p o cb cg bg rg A T l B R) (hk : Keep (fun k => k = bg) w w') (hb : Blk w' bg 41 (B'.flatMap Bl.cells).toArray) (hl : B'.length = A) : MemAt w' p o cb cg bg rg A T l B' R :=
  ⟨h.p.keep hk (fun e => h.p.ne_ h.b (by decide) e), ⟨h.m.blk.keep hk (fun e => h.m.blk.ne_ h.b (by decide) e), h.m.a, h.m.t⟩, ⟨h.c.blk.keep hk (fun e => h.c.blk.ne_ h.b (by decide) e), h.c.row.keep hk (fun e => h.c.row.ne_ h.b (by decide) e), h.c.len, h.c.fit⟩, h.cl, hb, hl, h.r.keep hk (fun e => h.r.ne_ h.b (by decide) e), h.rl, h.a1, h.t1⟩
theorem MemAt.setC (h : MemAt w p o cb cg bg rg A T l B R) (hw : Wrote w w' cb cg l') (hl : l'.length = l.length) : MemAt w' p o cb cg bg rg A T l' B R :=
  ⟨h.p.keep hw.keep (fun e => h.p.ne_ h.c.row (by decide) e), ⟨h.m.blk.keep hw.keep (fun e => h.m.blk.ne_ h.c.row (by decide) e), h.m.a, h.m.t⟩, hw.cells, hl.trans h.cl, h.b.keep hw.keep (fun e => h.b.ne_ h.c.row (by decide) e), h.bl, h.r.keep hw.keep (fun e => h.r.ne_ h.c.row (by decide) e), h.rl, h.a1, h.t1⟩
theorem MemAt.setR (h : MemAt w p o cb cg bg rg A T l B R) (hk : Keep (fun k => k = rg) w w') (hb : Blk w' rg 43 (R'.flatMap OpV.cells).toArray) (hl : R'.length = T) : MemAt w' p o cb cg bg rg A T l B R' :=
  ⟨h.p.keep hk (fun e => h.p.ne_ h.r (by decide) e), ⟨h.m.blk.keep hk (fun e => h.m.blk.ne_ h.r (by decide) e), h.m.a, h.m.t⟩, ⟨h.c.blk.keep hk (fun e => h.c.blk.ne_ h.r (by decide) e), h.c.row.keep hk (fun e => h.c.row.ne_ h.r (by decide) e), h.c.len, h.c.fit⟩, h.cl, h.b.keep hk (fun e => h.b.ne_ h.r (by decide) e), h.bl, hb, hl, h.a1, h.t1⟩
/-- A box of the call's own is written. -/
theorem MemAt.own {g : Nat} (h : MemAt w p o cb cg bg rg A T l B R) (hk : Keep (fun k => k = g) w w') (h1 : p ≠ g) (h2 : o ≠ g) (h3 : cb ≠ g) (h4 : cg ≠ g) (h5 : bg ≠ g) (h6 : rg ≠ g) : MemAt w' p o cb cg bg rg A T l B R :=
  ⟨h.p.keep hk h1, ⟨h.m.blk.keep hk h2, h.m.a, h.m.t⟩, ⟨h.c.blk.keep hk h3, h.c.row.keep hk h4, h.c.len, h.c.fit⟩, h.cl, h.b.keep hk h5, h.bl, h.r.keep hk h6, h.rl, h.a1, h.t1⟩
end
theorem usedB_len (A : Nat) (B : List Bl) (i : Nat) : (usedB A B i).length = B.length := by
  unfold usedB; split
  · rw [List.length_set]
  · rfl
theorem Keep.mono {S S2 : Nat → Prop} {a b : World} (h : Keep S a b) (hs : ∀ k, S k → S2 k) : Keep S2 a b := ⟨h.os, h.tape, h.output, h.size, fun k hk hn => h.block k hk (fun e => hn (hs k e))⟩
theorem Keep.under {S : Nat → Prop} {a b c : World} (h : Below a.heap.size a b) (k : Keep S b c) : Keep S a c := (Keep.of_below h S).trans k (fun _ _ e => e)
theorem Keep.own3 {S : Nat → Prop} {a b c : World} {g : Nat} (h : Keep S a b) (k : Keep (fun i => i = g) b c) (hg : a.heap.size ≤ g) : Keep S a c := h.trans k (fun i hi e => absurd hi (by rw [e]; omega))
set_option maxHeartbeats 2000000 in
set_option maxRecDepth 100000 in
theorem written_yes (p o cb cg bg rg A T i : Nat) (l : List (Nat × Nat)) (B : List Bl) (R : List OpV) (hi : i < l.length) (w : World) (h : MemAt w p o cb cg bg rg A T l B R) :
    Calls Try.prog 56 #[.pointer (some ⟨o, 0, none⟩), .int .i64 i, .bool true] w fun e w' => Done w w' e p o cb cg bg rg A T l (usedB A B i) R OkV := by
  have HA := Lib.hid (one_alloc w (.cells #[.bool false, .int .u64 0, .int .u64 0, .int .i64 0, .int .i64 0, .string ⟨#[]⟩, .string ⟨#[]⟩, .bool false, .int .i64 0, .slice none 0 0, .slice none 0 0, .slice none 0 0, .int .i64 0, .int .i64 0, .string ⟨#[]⟩, .int .u64 0, .slice none 0 0, .slice none 0 0, .slice none 0 0, .slice none 0 0, .int .i64 0, .string ⟨#[]⟩, .string ⟨#[]⟩, .int .u64 0, .int .i64 0] 45)).2
  have HX := Lib.hid (Blk.new w 45 #[.bool false, .int .u64 0, .int .u64 0, .int .i64 0, .int .i64 0, .string ⟨#[]⟩, .string ⟨#[]⟩, .bool false, .int .i64 0, .slice none 0 0, .slice none 0 0, .slice none 0 0, .int .i64 0, .int .i64 0, .string ⟨#[]⟩, .int .u64 0, .slice none 0 0, .slice none 0 0, .slice none 0 0, .slice none 0 0, .int .i64 0, .string ⟨#[]⟩, .string ⟨#[]⟩, .int .u64 0, .int .i64 0])
  have HG := Lib.hid (fun W (hb : Below w.heap.size w W) => begin_any o A T 1 _ _ _ (by decide) W (h.m.below hb))
  have HM := Lib.hid (h.below HA.out)
  have HLT := Lib.hid h.ltA
  have e1 : begM A T 1 = A := by simp [begM, manyM]
  rw [e1] at HG
  have hiA : i ≤ 65536 := by have := h.c.len; omega
  have hA := h.m.a
  have hbl := h.bl
  have HB := Lib.hid (show (usedB A B i) = (if A ≤ i ∧ i < 2 * A then B.set (i - A) Bl.zero else B) from rfl)
  clear h e1
  have c1 := HM.out.m.c1
  have c3 := HM.out.m.c3
  by_cases h1 : A ≤ i
  · by_cases h2 : i < 2 * A
    · have g1 : (0 : Int) ≤ (i : Int) - A := by omega
      have g2 : (i : Int) - A < A := by omega
      have HBE : Hid (usedB A B i = B.set (i - A) Bl.zero) := Lib.hid (by rw [HB.out, if_pos ⟨h1, h2⟩])
      clear HB
      rw [HBE.out]
      go_enter Try.func56, Try.ntmps56
      go_wp2_with fail
      refine (HG.out _ HA.out).mono ?_
      rintro e w2 ⟨rfl, hw⟩
      subst hw
      go_wp2_with (first
        | (refine wpList_store_row bl_len rfl 41 _ _ rfl bg 41 B (i - A) (by omega) Bl.zero _ (by omega) rfl rfl HM.out.b szBlock (bl_one _) ?_; intro Wb hB1 hB2; have HXR := Lib.hid (HX.out.keep hB2.out (by have := HLT.out; omega)))
        | (refine wpList_store_blk rfl 45 _ _ rfl w.heap.size 45 _ [.bool true, .int .u64 0, .int .u64 0, .int .i64 0, .int .i64 0, .string ⟨#[]⟩, .string ⟨#[]⟩, .bool false, .int .i64 0, .slice none 0 0, .slice none 0 0, .slice none 0 0, .int .i64 0, .int .i64 0, .string ⟨#[]⟩, .int .u64 0, .slice none 0 0, .slice none 0 0, .slice none 0 0, .slice none 0 0, .int .i64 0, .string ⟨#[]⟩, .string ⟨#[]⟩, .int .u64 0, .int .i64 0] rfl rfl HXR.out rfl szReply (by simp [Value.oneCell']) ?_; intro W hW1 hW2))
      refine bodyPost_ret (ret_reply rfl rfl hW1.out rfl) rfl ?_
      have hlt := HLT.out
      have hm2 := HM.out.setB hB2.out hB1.out (by rw [List.length_set]; exact hbl)
      exact ⟨rfl, hm2.own hW2.out (by omega) (by omega) (by omega) (by omega) (by omega) (by omega), Keep.own3 (Keep.under HA.out (hB2.out.mono (fun k e => Or.inr (Or.inl e)))) hW2.out (Nat.le_refl _)⟩
    · have g1 : (0 : Int) ≤ (i : Int) - A := by omega
      have g2 : ¬ (i : Int) - A < A := by omega
      have HBE : Hid (usedB A B i = B) := Lib.hid (by rw [HB.out, if_neg (by omega)])
      clear HB
      rw [HBE.out]
      go_enter Try.func56, Try.ntmps56
      go_wp2_with fail
      refine (HG.out _ HA.out).mono ?_
      rintro e w2 ⟨rfl, hw⟩
      subst hw
      go_wp2_with (refine wpList_store_blk rfl 45 _ _ rfl w.heap.size 45 _ [.bool true, .int .u64 0, .int .u64 0, .int .i64 0, .int .i64 0, .string ⟨#[]⟩, .string ⟨#[]⟩, .bool false, .int .i64 0, .slice none 0 0, .slice none 0 0, .slice none 0 0, .int .i64 0, .int .i64 0, .string ⟨#[]⟩, .int .u64 0, .slice none 0 0, .slice none 0 0, .slice none 0 0, .slice none 0 0, .int .i64 0, .string ⟨#[]⟩, .string ⟨#[]⟩, .int .u64 0, .int .i64 0] rfl rfl HX.out rfl szReply (by simp [Value.oneCell']) ?_; intro W hW1 hW2)
      refine bodyPost_ret (ret_reply rfl rfl hW1.out rfl) rfl ?_
      have hlt := HLT.out
      exact ⟨rfl, HM.out.own hW2.out (by omega) (by omega) (by omega) (by omega) (by omega) (by omega), Keep.own3 (Keep.of_below HA.out _) hW2.out (Nat.le_refl _)⟩
  · have g1 : ¬ (0 : Int) ≤ (i : Int) - A := by omega
    have HBE : Hid (usedB A B i = B) := Lib.hid (by rw [HB.out, if_neg (by omega)])
    clear HB
    rw [HBE.out]
    go_enter Try.func56, Try.ntmps56
    go_wp2_with fail
    refine (HG.out _ HA.out).mono ?_
    rintro e w2 ⟨rfl, hw⟩
    subst hw
    go_wp2_with (refine wpList_store_blk rfl 45 _ _ rfl w.heap.size 45 _ [.bool true, .int .u64 0, .int .u64 0, .int .i64 0, .int .i64 0, .string ⟨#[]⟩, .string ⟨#[]⟩, .bool false, .int .i64 0, .slice none 0 0, .slice none 0 0, .slice none 0 0, .int .i64 0, .int .i64 0, .string ⟨#[]⟩, .int .u64 0, .slice none 0 0, .slice none 0 0, .slice none 0 0, .slice none 0 0, .int .i64 0, .string ⟨#[]⟩, .string ⟨#[]⟩, .int .u64 0, .int .i64 0] rfl rfl HX.out rfl szReply (by simp [Value.oneCell']) ?_; intro W hW1 hW2)
    refine bodyPost_ret (ret_reply rfl rfl hW1.out rfl) rfl ?_
    have hlt := HLT.out
    exact ⟨rfl, HM.out.own hW2.out (by omega) (by omega) (by omega) (by omega) (by omega) (by omega), Keep.own3 (Keep.of_below HA.out _) hW2.out (Nat.le_refl _)⟩
end Go.Proofs.Ytkdjcikilabehaa
