/-
  The library's slices.Sort of numbers at this program: what it leaves. No statement is proved here. No condition.
-/
import Derived.Test.YtackfigkhjdidaaBScan
import Derived.Test.YtackfigkhjdidaaEMut
import Derived.Shelf.SortM.Plain
import Derived.Shelf.SortM.SortNone
import Derived.Sort.OwnSortedInts
namespace Go.Proofs.Ytackfigkhjdidaa
open Go.RowKit Go.Sort Go.Shelf

def sortA_ren : Go.Shelf.Ren := ⟨fun | 5 => 151 | 8 => 159 | 7 => 158 | 19 => 169 | 20 => 170 | 10 => 161 | 11 => 162 | 12 => 163 | 13 => 164 | 14 => 165 | 15 => 166 | 16 => 142 | 17 => 167 | 18 => 168 | 30 => 171 | 31 => 172 | 32 => 173 | 33 => 174 | 34 => 175 | 35 => 156 | 40 => 176 | n => n, fun | 23 => 32 | 25 => 3 | 3 => 3 | 32 => 47 | 22 => 32 | 0 => 0 | 44 => 220 | 46 => 185 | 4 => 4 | 36 => 214 | 35 => 213 | 41 => 129 | 5 => 5 | 9 => 9 | 53 => 222 | 57 => 114 | 63 => 226 | 64 => 68 | n => n, fun | n => n⟩
theorem sortA : SlLaysM.n5 Try.prog sortA_ren := {
    mixed := by kernel_rfl,
    f5 := ⟨Try.f151.name, by decide, Try.func151.trans (congrArg some (by kernel_rfl))⟩,
    f7 := ⟨Try.f158.name, by decide, Try.func158.trans (congrArg some (by kernel_rfl))⟩,
    f8 := Try.func159.trans (congrArg some (by kernel_rfl)),
    f10 := ⟨Try.f161.name, by decide, Try.func161.trans (congrArg some (by kernel_rfl))⟩,
    f11 := ⟨Try.f162.name, by decide, Try.func162.trans (congrArg some (by kernel_rfl))⟩,
    f12 := ⟨Try.f163.name, by decide, Try.func163.trans (congrArg some (by kernel_rfl))⟩,
    f13 := ⟨Try.f164.name, by decide, Try.func164.trans (congrArg some (by kernel_rfl))⟩,
    f14 := ⟨Try.f165.name, by decide, Try.func165.trans (congrArg some (by kernel_rfl))⟩,
    f15 := ⟨Try.f166.name, by decide, Try.func166.trans (congrArg some (by kernel_rfl))⟩,
    f16 := ⟨Try.f142.name, by decide, Try.func142.trans (congrArg some (by kernel_rfl))⟩,
    f17 := ⟨Try.f167.name, by decide, Try.func167.trans (congrArg some (by kernel_rfl))⟩,
    f18 := ⟨Try.f168.name, by decide, Try.func168.trans (congrArg some (by kernel_rfl))⟩,
    f19 := Try.func169.trans (congrArg some (by kernel_rfl)),
    f20 := Try.func170.trans (congrArg some (by kernel_rfl)),
    f30 := ⟨Try.f171.name, by decide, Try.func171.trans (congrArg some (by kernel_rfl))⟩,
    f31 := Try.func172.trans (congrArg some (by kernel_rfl)),
    f32 := Try.func173.trans (congrArg some (by kernel_rfl)),
    f33 := ⟨Try.f174.name, by decide, Try.func174.trans (congrArg some (by kernel_rfl))⟩,
    f34 := ⟨Try.f175.name, by decide, Try.func175.trans (congrArg some (by kernel_rfl))⟩,
    f35 := ⟨Try.f156.name, by decide, Try.func156.trans (congrArg some (by kernel_rfl))⟩,
    f40 := ⟨Try.f176.name, by decide, Try.func176.trans (congrArg some (by kernel_rfl))⟩,
    t0 := Try.underlying0,
    a0 := Try.isAgg0,
    z0 := Try.sizeOf0,
    v0 := Try.zeroValue0,
    t3 := Try.underlying3,
    a3 := Try.isAgg3,
    z3 := Try.sizeOf3,
    v3 := Try.zeroValue3,
    t4 := Try.underlying4,
    a4 := Try.isAgg4,
    z4 := Try.sizeOf4,
    v4 := Try.zeroValue4,
    t5 := Try.underlying5,
    a5 := Try.isAgg5,
    z5 := Try.sizeOf5,
    v5 := Try.zeroValue5,
    t9 := Try.underlying9,
    a9 := Try.isAgg9,
    z9 := Try.sizeOf9,
    v9 := Try.zeroValue9,
    t22 := Try.underlying32,
    a22 := Try.isAgg32,
    z22 := Try.sizeOf32,
    v22 := Try.zeroValue32,
    t23 := Try.underlying32,
    a23 := Try.isAgg32,
    z23 := Try.sizeOf32,
    v23 := Try.zeroValue32,
    t25 := Try.underlying3,
    a25 := Try.isAgg3,
    z25 := Try.sizeOf3,
    v25 := Try.zeroValue3,
    t32 := Try.underlying47,
    a32 := Try.isAgg47,
    z32 := Try.sizeOf47,
    v32 := Try.zeroValue47,
    t35 := Try.underlying213,
    a35 := Try.isAgg213,
    z35 := Try.sizeOf213,
    v35 := Try.zeroValue213,
    t36 := Try.underlying214,
    a36 := Try.isAgg214,
    z36 := Try.sizeOf214,
    v36 := Try.zeroValue214,
    t41 := Try.underlying129,
    a41 := Try.isAgg129,
    z41 := Try.sizeOf129,
    v41 := Try.zeroValue129,
    t44 := Try.underlying220,
    a44 := Try.isAgg220,
    z44 := Try.sizeOf220,
    v44 := Try.zeroValue220,
    t46 := Try.underlying185,
    a46 := Try.isAgg185,
    z46 := Try.sizeOf185,
    v46 := Try.zeroValue185,
    t53 := Try.underlying222,
    a53 := Try.isAgg222,
    z53 := Try.sizeOf222,
    v53 := Try.zeroValue222,
    t57 := Try.underlying114,
    a57 := Try.isAgg114,
    z57 := Try.sizeOf114,
    v57 := Try.zeroValue114,
    t63 := Try.underlying226,
    a63 := Try.isAgg226,
    z63 := Try.sizeOf226,
    v63 := Try.zeroValue226,
    t64 := Try.underlying68,
    a64 := Try.isAgg68,
    z64 := Try.sizeOf68,
    v64 := Try.zeroValue68 }

def leI (x y : Int) : Bool := decide (x ≤ y)
theorem row_map (l : List Int) : inR.row l = l.map (Value.int .i64) := by
  induction l with
  | nil => rfl
  | cons a l ih => rw [inR.row_cons, ih]; rfl
theorem sort_any (l : List Int) (B g cap : Nat) (w : World) (h : inR.Own w B 3 (.slice (some ⟨g, 0, none⟩) l.length cap) l) (hl : l.length ≤ 1000) :
    Calls Try.prog 151 #[.slice (some ⟨g, 0, none⟩) l.length cap] w fun e w' => e = .returned (.tuple #[]) ∧ inR.Own w' B 3 (.slice (some ⟨g, 0, none⟩) l.length cap) (l.mergeSort leI) ∧ w.grownBy w' (some g) ∧ B ≤ g := by
  rcases h.2 with ⟨hv, _⟩ | ⟨g', cap', cur, hv, hbase, hb, h1, h2, h3, h4⟩
  · cases hv
  injection hv with v1 v2 v3
  injection v1 with v1
  injection v1 with v1
  subst v1 v3
  have hs : inR.size = 1 := rfl
  rw [hs] at h3 h4
  rw [Nat.mul_one, row_map] at h4
  have c := AnyM.slices_Sort_int sortA g 0 cap l w (holds_of_blockI hb h4) (Array.getElem?_eq_some_iff.1 hb).1 (by omega)
  refine (show Calls Try.prog 151 _ w _ from c).mono fun e w' ⟨he, n, os, hw⟩ => ⟨he, ?_, ?_, hbase⟩
  · have hlen : (l.mergeSort leI).length = l.length := List.length_mergeSort l
    have := ownsRow_sortedI (w := w) (base := B) (g := g) (cap := cap) (n := n) (e := 3) (os := os) (ss := l) (ts := l.mergeSort leI) hlen hbase hb h1 h2 h3
    rw [hw]
    unfold Rec.Own
    rw [row_map, hlen]
    exact this
  · rw [hw]
    exact grownBy_sortedI _
end Go.Proofs.Ytackfigkhjdidaa
