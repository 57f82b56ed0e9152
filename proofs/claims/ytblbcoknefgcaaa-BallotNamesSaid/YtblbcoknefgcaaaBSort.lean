/-
  The library's slices.Sort of numbers at this program: what it leaves. No statement is proved here. No condition.
-/
import Derived.Test.YtblbcoknefgcaaaBScan
import Derived.Test.YtblbcoknefgcaaaEMut
import Derived.Shelf.SortM.Plain
import Derived.Shelf.SortM.SortNone
import Derived.Sort.OwnSortedInts
namespace Go.Proofs.Ytblbcoknefgcaaa
open Go.RowKit Go.Sort Go.Shelf

def sortA_ren : Go.Shelf.Ren := ⟨fun | 5 => 75 | 8 => 108 | 7 => 107 | 19 => 121 | 20 => 122 | 10 => 113 | 11 => 114 | 12 => 115 | 13 => 116 | 14 => 117 | 15 => 118 | 16 => 102 | 17 => 119 | 18 => 120 | 30 => 124 | 31 => 125 | 32 => 126 | 33 => 127 | 34 => 128 | 35 => 111 | 40 => 129 | n => n, fun | 23 => 32 | 25 => 3 | 3 => 3 | 32 => 47 | 22 => 32 | 0 => 0 | 44 => 175 | 46 => 156 | 4 => 4 | 36 => 169 | 35 => 168 | 41 => 104 | 5 => 5 | 9 => 9 | 53 => 178 | 57 => 92 | 63 => 182 | 64 => 183 | n => n, fun | n => n⟩
theorem sortA : SlLaysM.n5 Try.prog sortA_ren := {
    mixed := by kernel_rfl,
    f5 := ⟨Try.f75.name, by decide, Try.func75.trans (congrArg some (by kernel_rfl))⟩,
    f7 := ⟨Try.f107.name, by decide, Try.func107.trans (congrArg some (by kernel_rfl))⟩,
    f8 := Try.func108.trans (congrArg some (by kernel_rfl)),
    f10 := ⟨Try.f113.name, by decide, Try.func113.trans (congrArg some (by kernel_rfl))⟩,
    f11 := ⟨Try.f114.name, by decide, Try.func114.trans (congrArg some (by kernel_rfl))⟩,
    f12 := ⟨Try.f115.name, by decide, Try.func115.trans (congrArg some (by kernel_rfl))⟩,
    f13 := ⟨Try.f116.name, by decide, Try.func116.trans (congrArg some (by kernel_rfl))⟩,
    f14 := ⟨Try.f117.name, by decide, Try.func117.trans (congrArg some (by kernel_rfl))⟩,
    f15 := ⟨Try.f118.name, by decide, Try.func118.trans (congrArg some (by kernel_rfl))⟩,
    f16 := ⟨Try.f102.name, by decide, Try.func102.trans (congrArg some (by kernel_rfl))⟩,
    f17 := ⟨Try.f119.name, by decide, Try.func119.trans (congrArg some (by kernel_rfl))⟩,
    f18 := ⟨Try.f120.name, by decide, Try.func120.trans (congrArg some (by kernel_rfl))⟩,
    f19 := Try.func121.trans (congrArg some (by kernel_rfl)),
    f20 := Try.func122.trans (congrArg some (by kernel_rfl)),
    f30 := ⟨Try.f124.name, by decide, Try.func124.trans (congrArg some (by kernel_rfl))⟩,
    f31 := Try.func125.trans (congrArg some (by kernel_rfl)),
    f32 := Try.func126.trans (congrArg some (by kernel_rfl)),
    f33 := ⟨Try.f127.name, by decide, Try.func127.trans (congrArg some (by kernel_rfl))⟩,
    f34 := ⟨Try.f128.name, by decide, Try.func128.trans (congrArg some (by kernel_rfl))⟩,
    f35 := ⟨Try.f111.name, by decide, Try.func111.trans (congrArg some (by kernel_rfl))⟩,
    f40 := ⟨Try.f129.name, by decide, Try.func129.trans (congrArg some (by kernel_rfl))⟩,
    t0 := Try.underlying0,
    a0 := Try.isAgg0,
    z0 := Try.sizeOf0,
    v0 := Try.zeroValue0,
    t3 := Try.underlying3,
    a3 := Try.isAgg3,
    z3 := Try.sizeOf3,
    v3 := Try.zeroValue3,
    t4 := Try.underlying4,
    a4 := Try.isAgg4,
    z4 := Try.sizeOf4,
    v4 := Try.zeroValue4,
    t5 := Try.underlying5,
    a5 := Try.isAgg5,
    z5 := Try.sizeOf5,
    v5 := Try.zeroValue5,
    t9 := Try.underlying9,
    a9 := Try.isAgg9,
    z9 := Try.sizeOf9,
    v9 := Try.zeroValue9,
    t22 := Try.underlying32,
    a22 := Try.isAgg32,
    z22 := Try.sizeOf32,
    v22 := Try.zeroValue32,
    t23 := Try.underlying32,
    a23 := Try.isAgg32,
    z23 := Try.sizeOf32,
    v23 := Try.zeroValue32,
    t25 := Try.underlying3,
    a25 := Try.isAgg3,
    z25 := Try.sizeOf3,
    v25 := Try.zeroValue3,
    t32 := Try.underlying47,
    a32 := Try.isAgg47,
    z32 := Try.sizeOf47,
    v32 := Try.zeroValue47,
    t35 := Try.underlying168,
    a35 := Try.isAgg168,
    z35 := Try.sizeOf168,
    v35 := Try.zeroValue168,
    t36 := Try.underlying169,
    a36 := Try.isAgg169,
    z36 := Try.sizeOf169,
    v36 := Try.zeroValue169,
    t41 := Try.underlying104,
    a41 := Try.isAgg104,
    z41 := Try.sizeOf104,
    v41 := Try.zeroValue104,
    t44 := Try.underlying175,
    a44 := Try.isAgg175,
    z44 := Try.sizeOf175,
    v44 := Try.zeroValue175,
    t46 := Try.underlying156,
    a46 := Try.isAgg156,
    z46 := Try.sizeOf156,
    v46 := Try.zeroValue156,
    t53 := Try.underlying178,
    a53 := Try.isAgg178,
    z53 := Try.sizeOf178,
    v53 := Try.zeroValue178,
    t57 := Try.underlying92,
    a57 := Try.isAgg92,
    z57 := Try.sizeOf92,
    v57 := Try.zeroValue92,
    t63 := Try.underlying182,
    a63 := Try.isAgg182,
    z63 := Try.sizeOf182,
    v63 := Try.zeroValue182,
    t64 := Try.underlying183,
    a64 := Try.isAgg183,
    z64 := Try.sizeOf183,
    v64 := Try.zeroValue183 }

def leI (x y : Int) : Bool := decide (x ≤ y)
theorem row_map (l : List Int) : inR.row l = l.map (Value.int .i64) := by
  induction l with
  | nil => rfl
  | cons a l ih => rw [inR.row_cons, ih]; rfl
theorem sort_any (l : List Int) (B g cap : Nat) (w : World) (h : inR.Own w B 3 (.slice (some ⟨g, 0, none⟩) l.length cap) l) (hl : l.length ≤ 1000) :
    Calls Try.prog 75 #[.slice (some ⟨g, 0, none⟩) l.length cap] w fun e w' => e = .returned (.tuple #[]) ∧ inR.Own w' B 3 (.slice (some ⟨g, 0, none⟩) l.length cap) (l.mergeSort leI) ∧ w.grownBy w' (some g) ∧ B ≤ g := by
  rcases h.2 with ⟨hv, _⟩ | ⟨g', cap', cur, hv, hbase, hb, h1, h2, h3, h4⟩
  · cases hv
  injection hv with v1 v2 v3
  injection v1 with v1
  injection v1 with v1
  subst v1 v3
  have hs : inR.size = 1 := rfl
  rw [hs] at h3 h4
  rw [Nat.mul_one, row_map] at h4
  have c := AnyM.slices_Sort_int sortA g 0 cap l w (holds_of_blockI hb h4) (Array.getElem?_eq_some_iff.1 hb).1 (by omega)
  refine (show Calls Try.prog 75 _ w _ from c).mono fun e w' ⟨he, n, os, hw⟩ => ⟨he, ?_, ?_, hbase⟩
  · have hlen : (l.mergeSort leI).length = l.length := List.length_mergeSort l
    have := ownsRow_sortedI (w := w) (base := B) (g := g) (cap := cap) (n := n) (e := 3) (os := os) (ss := l) (ts := l.mergeSort leI) hlen hbase hb h1 h2 h3
    rw [hw]
    unfold Rec.Own
    rw [row_map, hlen]
    exact this
  · rw [hw]
    exact grownBy_sortedI _
end Go.Proofs.Ytblbcoknefgcaaa
