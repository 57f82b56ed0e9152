/-
  The library's slices.Sort of numbers at this program: what it leaves. No statement is proved here. No condition.
-/
import Derived.Test.YtlkcmiimmghghaaBScan
import Derived.Test.YtlkcmiimmghghaaEMut
import Derived.Shelf.SortM.Plain
import Derived.Shelf.SortM.SortNone
import Derived.Sort.OwnSortedInts
namespace Go.Proofs.Ytlkcmiimmghghaa
open Go.RowKit Go.Sort Go.Shelf

def sortA_ren : Go.Shelf.Ren := ⟨fun | 5 => 23 | 8 => 31 | 7 => 30 | 19 => 43 | 20 => 44 | 10 => 35 | 11 => 36 | 12 => 37 | 13 => 38 | 14 => 39 | 15 => 40 | 16 => 25 | 17 => 41 | 18 => 42 | 30 => 46 | 31 => 47 | 32 => 48 | 33 => 49 | 34 => 50 | 35 => 33 | 40 => 51 | n => n, fun | 23 => 23 | 25 => 3 | 3 => 3 | 32 => 45 | 22 => 23 | 0 => 0 | 44 => 60 | 46 => 62 | 4 => 4 | 36 => 54 | 35 => 53 | 41 => 34 | 5 => 5 | 9 => 9 | 53 => 63 | 57 => 67 | 63 => 69 | 64 => 70 | n => n, fun | n => n⟩
theorem sortA : SlLaysM.n5 Try.prog sortA_ren := {
    mixed := by kernel_rfl,
    f5 := ⟨Try.f23.name, by decide, Try.func23.trans (congrArg some (by kernel_rfl))⟩,
    f7 := ⟨Try.f30.name, by decide, Try.func30.trans (congrArg some (by kernel_rfl))⟩,
    f8 := Try.func31.trans (congrArg some (by kernel_rfl)),
    f10 := ⟨Try.f35.name, by decide, Try.func35.trans (congrArg some (by kernel_rfl))⟩,
    f11 := ⟨Try.f36.name, by decide, Try.func36.trans (congrArg some (by kernel_rfl))⟩,
    f12 := ⟨Try.f37.name, by decide, Try.func37.trans (congrArg some (by kernel_rfl))⟩,
    f13 := ⟨Try.f38.name, by decide, Try.func38.trans (congrArg some (by kernel_rfl))⟩,
    f14 := ⟨Try.f39.name, by decide, Try.func39.trans (congrArg some (by kernel_rfl))⟩,
    f15 := ⟨Try.f40.name, by decide, Try.func40.trans (congrArg some (by kernel_rfl))⟩,
    f16 := ⟨Try.f25.name, by decide, Try.func25.trans (congrArg some (by kernel_rfl))⟩,
    f17 := ⟨Try.f41.name, by decide, Try.func41.trans (congrArg some (by kernel_rfl))⟩,
    f18 := ⟨Try.f42.name, by decide, Try.func42.trans (congrArg some (by kernel_rfl))⟩,
    f19 := Try.func43.trans (congrArg some (by kernel_rfl)),
    f20 := Try.func44.trans (congrArg some (by kernel_rfl)),
    f30 := ⟨Try.f46.name, by decide, Try.func46.trans (congrArg some (by kernel_rfl))⟩,
    f31 := Try.func47.trans (congrArg some (by kernel_rfl)),
    f32 := Try.func48.trans (congrArg some (by kernel_rfl)),
    f33 := ⟨Try.f49.name, by decide, Try.func49.trans (congrArg some (by kernel_rfl))⟩,
    f34 := ⟨Try.f50.name, by decide, Try.func50.trans (congrArg some (by kernel_rfl))⟩,
    f35 := ⟨Try.f33.name, by decide, Try.func33.trans (congrArg some (by kernel_rfl))⟩,
    f40 := ⟨Try.f51.name, by decide, Try.func51.trans (congrArg some (by kernel_rfl))⟩,
    t0 := Try.underlying0,
    a0 := Try.isAgg0,
    z0 := Try.sizeOf0,
    v0 := Try.zeroValue0,
    t3 := Try.underlying3,
    a3 := Try.isAgg3,
    z3 := Try.sizeOf3,
    v3 := Try.zeroValue3,
    t4 := Try.underlying4,
    a4 := Try.isAgg4,
    z4 := Try.sizeOf4,
    v4 := Try.zeroValue4,
    t5 := Try.underlying5,
    a5 := Try.isAgg5,
    z5 := Try.sizeOf5,
    v5 := Try.zeroValue5,
    t9 := Try.underlying9,
    a9 := Try.isAgg9,
    z9 := Try.sizeOf9,
    v9 := Try.zeroValue9,
    t22 := Try.underlying23,
    a22 := Try.isAgg23,
    z22 := Try.sizeOf23,
    v22 := Try.zeroValue23,
    t23 := Try.underlying23,
    a23 := Try.isAgg23,
    z23 := Try.sizeOf23,
    v23 := Try.zeroValue23,
    t25 := Try.underlying3,
    a25 := Try.isAgg3,
    z25 := Try.sizeOf3,
    v25 := Try.zeroValue3,
    t32 := Try.underlying45,
    a32 := Try.isAgg45,
    z32 := Try.sizeOf45,
    v32 := Try.zeroValue45,
    t35 := Try.underlying53,
    a35 := Try.isAgg53,
    z35 := Try.sizeOf53,
    v35 := Try.zeroValue53,
    t36 := Try.underlying54,
    a36 := Try.isAgg54,
    z36 := Try.sizeOf54,
    v36 := Try.zeroValue54,
    t41 := Try.underlying34,
    a41 := Try.isAgg34,
    z41 := Try.sizeOf34,
    v41 := Try.zeroValue34,
    t44 := Try.underlying60,
    a44 := Try.isAgg60,
    z44 := Try.sizeOf60,
    v44 := Try.zeroValue60,
    t46 := Try.underlying62,
    a46 := Try.isAgg62,
    z46 := Try.sizeOf62,
    v46 := Try.zeroValue62,
    t53 := Try.underlying63,
    a53 := Try.isAgg63,
    z53 := Try.sizeOf63,
    v53 := Try.zeroValue63,
    t57 := Try.underlying67,
    a57 := Try.isAgg67,
    z57 := Try.sizeOf67,
    v57 := Try.zeroValue67,
    t63 := Try.underlying69,
    a63 := Try.isAgg69,
    z63 := Try.sizeOf69,
    v63 := Try.zeroValue69,
    t64 := Try.underlying70,
    a64 := Try.isAgg70,
    z64 := Try.sizeOf70,
    v64 := Try.zeroValue70 }

def leI (x y : Int) : Bool := decide (x ≤ y)
theorem row_map (l : List Int) : inR.row l = l.map (Value.int .i64) := by
  induction l with
  | nil => rfl
  | cons a l ih => rw [inR.row_cons, ih]; rfl
theorem sort_any (l : List Int) (B g cap : Nat) (w : World) (h : inR.Own w B 3 (.slice (some ⟨g, 0, none⟩) l.length cap) l) (hl : l.length ≤ 1000) :
    Calls Try.prog 23 #[.slice (some ⟨g, 0, none⟩) l.length cap] w fun e w' => e = .returned (.tuple #[]) ∧ inR.Own w' B 3 (.slice (some ⟨g, 0, none⟩) l.length cap) (l.mergeSort leI) ∧ w.grownBy w' (some g) ∧ B ≤ g := by
  rcases h.2 with ⟨hv, _⟩ | ⟨g', cap', cur, hv, hbase, hb, h1, h2, h3, h4⟩
  · cases hv
  injection hv with v1 v2 v3
  injection v1 with v1
  injection v1 with v1
  subst v1 v3
  have hs : inR.size = 1 := rfl
  rw [hs] at h3 h4
  rw [Nat.mul_one, row_map] at h4
  have c := AnyM.slices_Sort_int sortA g 0 cap l w (holds_of_blockI hb h4) (Array.getElem?_eq_some_iff.1 hb).1 (by omega)
  refine (show Calls Try.prog 23 _ w _ from c).mono fun e w' ⟨he, n, os, hw⟩ => ⟨he, ?_, ?_, hbase⟩
  · have hlen : (l.mergeSort leI).length = l.length := List.length_mergeSort l
    have := ownsRow_sortedI (w := w) (base := B) (g := g) (cap := cap) (n := n) (e := 3) (os := os) (ss := l) (ts := l.mergeSort leI) hlen hbase hb h1 h2 h3
    rw [hw]
    unfold Rec.Own
    rw [row_map, hlen]
    exact this
  · rw [hw]
    exact grownBy_sortedI _
end Go.Proofs.Ytlkcmiimmghghaa
