/- node.Find at a leaf that rises; bowerlaw11.lives. Condition: sizes that fit. -/
import Derived.Test.YtnlghdkgejimpaaLeafWithout
namespace Go.Proofs.Ytnlghdkgejimpaa
open Go.RowKit

def getF (ks : List ByteArray) (vs : List Nat) (k : ByteArray) : Nat := if thereF ks k then nu vs (placeF ks k) else 0

set_option maxHeartbeats 1000000 in
set_option maxRecDepth 100000 in
theorem nfind_of (lv nx : Int) (lo hi : ByteArray) (la : Bool) (ak av ac : Option Addr) (ck cv cc : Nat) (ks : List ByteArray) (vs : List Nat) (cs : List Int) (k : ByteArray) (b : Bool) (w : World) (hN : NdAt w ak av ac ks.length ck vs.length cv cs.length cc ks vs cs) (hf : Fit lo hi ks ks.length vs.length cs.length) (hk : k.size ≤ 140737488355328) (hu : Rises ks) (hv : vs.length = ks.length) (hb : b = true ↔ thereF ks k) :
    Calls Try.prog 29 #[.agg #[.int .i64 lv, .string lo, .string hi, .bool la, .int .i64 nx, .slice ak ks.length ck, .slice av vs.length cv, .slice ac cs.length cc], .string k] w fun e w' => e = .returned (.tuple #[.int .u64 (getF ks vs k), .bool b]) ∧ Below w.heap.size w w' := by
  have HB := Lib.hid (boxed_below w (.cells #[.int .i64 lv, .string lo, .string hi, .bool la, .int .i64 nx, .slice ak ks.length ck, .slice av vs.length cv, .slice ac cs.length cc] 26))
  have HNB := Lib.hid (NB.new w #[.int .i64 lv, .string lo, .string hi, .bool la, .int .i64 nx, .slice ak ks.length ck, .slice av vs.length cv, .slice ac cs.length cc])
  have HND := Lib.hid (hN.keep HB.out)
  have HF := Lib.hid (find_any (.slice ak ks.length ck) k ks _ HND.out.k hk hf.ks (by have := hf.n; omega) hu)
  obtain ⟨q0, q1, q2, q3, q4, q5, q6, q7⟩ := HNB.out.cells
  have hv0 := hf.n.2.1
  have hv2 := rd_len hN.v
  have hv3 := hv2.2.2
  have hv4 := hv2.2.1
  have HV := Lib.hid hv
  have HU := Lib.hid hu
  have HBB := Lib.hid hb
  clear hN hf hk hu hv hb hv2
  go_enter Try.func29, Try.ntmps29
  go_wp2_with fail
  refine HF.out.mono ?_
  rintro e w2 ⟨at_, is, rfl, hE, hi, hb2⟩
  obtain rfl : at_ = placeF ks k := hE.one (edge_place HU.out k)
  have hib : is = b := by
    have h3 : is = true ↔ thereF ks k := hi
    cases is with
    | true => exact (HBB.out.2 (h3.1 rfl)).symm
    | false => exact (bool_no HBB.out (fun h => by have := h3.2 h; cases this)).symm
  subst hib
  have HB2 := Lib.hid (HB.out.trans (hb2.mono HB.out.size))
  clear hE hi q0 q1 q2 q3 q4 q5 q6 q7
  obtain ⟨q0, q1, q2, q3, q4, q5, q6, q7⟩ := (HNB.out.below hb2).cells
  cases is with
  | false =>
    have HZ : Hid (getF ks vs k = 0) := Lib.hid (by unfold getF; rw [if_neg (fun h => by have := HBB.out.2 h; cases this)])
    clear hb2
    go_wp2
    go_ret2
    exact ⟨by rw [HZ.out]; rfl, HB2.out⟩
  | true =>
    have HTH := Lib.hid (HBB.out.1 rfl)
    have HZ : Hid (getF ks vs k = nu vs (placeF ks k)) := Lib.hid (by unfold getF; rw [if_pos HTH.out])
    have hlt : placeF ks k < vs.length := by rw [HV.out]; exact HTH.out.1
    obtain ⟨g, o, rfl, hc⟩ := rd_at (HND.out.v.keep hb2) 0 _ hlt
    have hc1 := hc _ hlt
    clear hc hb2
    unfold uv at hc1
    rw [show vs.getD (placeF ks k) 0 = nu vs (placeF ks k) from rfl] at hc1
    generalize nu vs (placeF ks k) = z at *
    clear HBB HTH HF
    generalize placeF ks k = a at *
    have hge : ¬ (vs.length : Int) ≤ a := by omega
    go_wp2
    go_ret2
    exact ⟨by rw [HZ.out]; rfl, HB2.out⟩
end Go.Proofs.Ytnlghdkgejimpaa
