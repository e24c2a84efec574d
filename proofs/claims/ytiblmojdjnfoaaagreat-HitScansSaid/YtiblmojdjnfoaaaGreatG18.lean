/- Contracts of the library at this program (slices_Clone_int, slices_Clone_int_nil, slices_Clone_int_zero, slices_Sort, slices_SortFunc, slices_SortFunc_none, slices_Sort_int, slices_Sort_int_none, slices_Sort_none), each by one application of a theorem of the library. Package bvh: byMedian: a list is copied, ordered by the library's own sort, and halved. Package bvh: bySurface; how a list is parted (parter). Package bvh: how a list is parted (parter). -/
import Derived.Shelf.Small.Bits
import Derived.Shelf.Strconv.Itoa0
import Derived.Shelf.Sort.Plain
import Derived.Ground.Names2Prog
import Derived.Shelf.Slices.Clone
import Derived.Shelf.Slices.SearchI
import Derived.Shelf.Slices.In.SortNone
import Derived.Ground.SlgnProg
import Derived.Shelf.SlicesE.Clone
import Derived.Ground.SlsfProg
import Derived.Shelf.SlSortCmp.Insertion
import Derived.Shelf.SlSortCmp.SiftDown1
import Derived.Shelf.SlSortCmp.HeapSort1
import Derived.Shelf.SlSortCmp.Insertion1
import Derived.Shelf.SlSortCmp.Median1
import Derived.Shelf.SlSortCmp.Pivot1
import Derived.Shelf.SlSortCmp.ReverseRange1
import Derived.Shelf.SlSortCmp.PartialInsertion1
import Derived.Shelf.SlSortCmp.PartitionEqual1
import Derived.Shelf.SlSortCmp.Partition1
import Derived.Shelf.SlSortCmp.Pdq1
import Derived.Shelf.SlSortCmp.Whole1
import Derived.Shelf.SlSortCmp.NoneTotal
import Derived.Test.YtiblmojdjnfoaaaGreatProg
import Derived.Test.YtiblmojdjnfoaaaGreatG16
import Derived.Test.YtiblmojdjnfoaaaGreatG17
import Derived.Test.YtiblmojdjnfoaaaGreatG14
import Derived.Test.YtiblmojdjnfoaaaGreatG8
namespace Go.Proofs
open Go.Shelf
def Tryz.lays189_ren : Go.Shelf.Ren := ⟨fun | 189 => 78 | 125 => 100 | 257 => 99 | 128 => 132 | 129 => 133 | 294 => 123 | 295 => 124 | 296 => 125 | 297 => 126 | 298 => 127 | 299 => 128 | 216 => 129 | 300 => 130 | 301 => 131 | 328 => 146 | 329 => 147 | 330 => 148 | 331 => 149 | 332 => 150 | 215 => 145 | 343 => 155 | n => n, fun | 28 => 28 | 3 => 3 | 46 => 145 | 0 => 0 | 51 => 167 | 53 => 111 | 4 => 4 | 183 => 159 | 182 => 158 | 131 => 164 | 5 => 5 | 9 => 9 | 218 => 176 | 222 => 180 | 228 => 184 | 229 => 185 | n => n, fun | n => n⟩
theorem Tryz.lays189 : Go.Proofs.Lays.n189 Tryz.prog Tryz.lays189_ren := {
  mixed := by kernel_rfl
  f125 := Tryz.func100.trans (congrArg some (by kernel_rfl))
  f128 := Tryz.func132.trans (congrArg some (by kernel_rfl))
  f129 := Tryz.func133.trans (congrArg some (by kernel_rfl))
  f189 := Tryz.func78.trans (congrArg some (by kernel_rfl))
  f215 := Tryz.func145.trans (congrArg some (by kernel_rfl))
  f216 := Tryz.func129.trans (congrArg some (by kernel_rfl))
  f257 := Tryz.func99.trans (congrArg some (by kernel_rfl))
  f294 := Tryz.func123.trans (congrArg some (by kernel_rfl))
  f295 := Tryz.func124.trans (congrArg some (by kernel_rfl))
  f296 := Tryz.func125.trans (congrArg some (by kernel_rfl))
  f297 := Tryz.func126.trans (congrArg some (by kernel_rfl))
  f298 := Tryz.func127.trans (congrArg some (by kernel_rfl))
  f299 := Tryz.func128.trans (congrArg some (by kernel_rfl))
  f300 := Tryz.func130.trans (congrArg some (by kernel_rfl))
  f301 := Tryz.func131.trans (congrArg some (by kernel_rfl))
  f328 := Tryz.func146.trans (congrArg some (by kernel_rfl))
  f329 := Tryz.func147.trans (congrArg some (by kernel_rfl))
  f330 := Tryz.func148.trans (congrArg some (by kernel_rfl))
  f331 := Tryz.func149.trans (congrArg some (by kernel_rfl))
  f332 := Tryz.func150.trans (congrArg some (by kernel_rfl))
  f343 := Tryz.func155.trans (congrArg some (by kernel_rfl))
  t0 := Tryz.underlying0
  a0 := Tryz.isAgg0
  z0 := Tryz.sizeOf0
  v0 := Tryz.zeroValue0
  t3 := Tryz.underlying3
  a3 := Tryz.isAgg3
  z3 := Tryz.sizeOf3
  v3 := Tryz.zeroValue3
  t4 := Tryz.underlying4
  a4 := Tryz.isAgg4
  z4 := Tryz.sizeOf4
  v4 := Tryz.zeroValue4
  t5 := Tryz.underlying5
  a5 := Tryz.isAgg5
  z5 := Tryz.sizeOf5
  v5 := Tryz.zeroValue5
  t9 := Tryz.underlying9
  a9 := Tryz.isAgg9
  z9 := Tryz.sizeOf9
  v9 := Tryz.zeroValue9
  t28 := Tryz.underlying28
  a28 := Tryz.isAgg28
  z28 := Tryz.sizeOf28
  v28 := Tryz.zeroValue28
  t46 := Tryz.underlying145
  a46 := Tryz.isAgg145
  z46 := Tryz.sizeOf145
  v46 := Tryz.zeroValue145
  t51 := Tryz.underlying167
  a51 := Tryz.isAgg167
  z51 := Tryz.sizeOf167
  v51 := Tryz.zeroValue167
  t53 := Tryz.underlying111
  a53 := Tryz.isAgg111
  z53 := Tryz.sizeOf111
  v53 := Tryz.zeroValue111
  t131 := Tryz.underlying164
  a131 := Tryz.isAgg164
  z131 := Tryz.sizeOf164
  v131 := Tryz.zeroValue164
  t182 := Tryz.underlying158
  a182 := Tryz.isAgg158
  z182 := Tryz.sizeOf158
  v182 := Tryz.zeroValue158
  t183 := Tryz.underlying159
  a183 := Tryz.isAgg159
  z183 := Tryz.sizeOf159
  v183 := Tryz.zeroValue159
  t218 := Tryz.underlying176
  a218 := Tryz.isAgg176
  z218 := Tryz.sizeOf176
  v218 := Tryz.zeroValue176
  t222 := Tryz.underlying180
  a222 := Tryz.isAgg180
  z222 := Tryz.sizeOf180
  v222 := Tryz.zeroValue180
  t228 := Tryz.underlying184
  a228 := Tryz.isAgg184
  z228 := Tryz.sizeOf184
  v228 := Tryz.zeroValue184
  t229 := Tryz.underlying185
  a229 := Tryz.isAgg185
  z229 := Tryz.sizeOf185
  v229 := Tryz.zeroValue185 }
open Go.Sort Go.RowKit in
theorem Tryz.slices_Sort_int (blk off cap : Nat) (zs : List Int) (w : World) (hH : Holds (Value.int .i64) w blk off zs.toArray) (hblk : blk < w.heap.size) (hsz : zs.length < 4611686018427387904) :
    Calls Tryz.prog 78 #[.slice (some ⟨blk, off, none⟩) zs.length cap] w fun e w' =>
      e = .returned (.tuple #[]) ∧ ∃ n os, w' = grow (putRow (Value.int .i64) (Sort.ahead w n) blk off (zs.mergeSort fun x y => decide (x ≤ y)).toArray) os := Any.slices_Sort_int Tryz.lays189 blk off cap zs w hH hblk hsz
def Tryz.laysNm215_ren : Go.Shelf.Ren := ⟨fun | 15 => 96 | n => n, fun | 22 => 28 | 3 => 3 | 4 => 4 | n => n, fun | n => n⟩
theorem Tryz.laysNm215 : Go.Proofs.Lays2.n15 Tryz.prog Tryz.laysNm215_ren := {
  mixed := by kernel_rfl
  f15 := Tryz.func96.trans (congrArg some (by kernel_rfl))
  t3 := Tryz.underlying3
  a3 := Tryz.isAgg3
  z3 := Tryz.sizeOf3
  v3 := Tryz.zeroValue3
  t4 := Tryz.underlying4
  a4 := Tryz.isAgg4
  z4 := Tryz.sizeOf4
  v4 := Tryz.zeroValue4
  t22 := Tryz.underlying28
  a22 := Tryz.isAgg28
  z22 := Tryz.sizeOf28
  v22 := Tryz.zeroValue28
  i3 := by kernel_rfl }
open Go.RowKit Go.Lib in
theorem Tryz.slices_Clone_int (b off n c : Nat) (zs : List Int) (w : World) (hz : n ≤ zs.length) (hbig : n * 8 ≤ 140737488355328) (hc : ∀ j, j < zs.length → w.cell? ⟨b, off + j, none⟩ = some (.int .i64 (zs.getD j 0))) :
    Calls Tryz.prog 96 #[.slice (some ⟨b, off, none⟩) n c] w fun e w' => ∃ v', e = .returned v' ∧ w'.ownsRow w.heap.size 3 1 v' n ((zs.take n).map (Value.int .i64)) ∧ v' ≠ .slice none 0 0 ∧ Below w.heap.size w w' := Any.slices_Clone_int Tryz.laysNm215 b off n c zs w hz hbig hc
open Go.RowKit Go.Lib in
theorem Tryz.slices_Clone_int_nil (n c : Nat) (w : World) :
    Calls Tryz.prog 96 #[.slice none n c] w fun e w' => e = .returned (.slice none 0 0) ∧ w' = w := Any.slices_Clone_int_nil Tryz.laysNm215 n c w
open Go.RowKit Go.Lib in
theorem Tryz.slices_Clone_int_zero (a : Addr) (c : Nat) (w : World) :
    Calls Tryz.prog 96 #[.slice (some a) 0 c] w fun e w' => ∃ v', e = .returned v' ∧ w'.ownsRow w.heap.size 3 1 v' 0 [] ∧ v' ≠ .slice none 0 0 ∧ Below w.heap.size w w' := Any.slices_Clone_int_zero Tryz.laysNm215 a c w
open Go.RowKit Go.Sort in
theorem Tryz.slices_Sort_int_none (p : Option Addr) (cap : Nat) (w : World) :
    Calls Tryz.prog 78 #[.slice p 0 cap] w fun e w' => e = .returned (.tuple #[]) ∧ w' = w := Any.slices_Sort_int_none Tryz.lays189 p cap w
def Tryz.laysSlF6_f97_ren : Go.Shelf.Ren := ⟨fun | 6 => 97 | 15 => 100 | 14 => 118 | 28 => 132 | 29 => 133 | 20 => 136 | 21 => 137 | 22 => 138 | 23 => 139 | 24 => 140 | 25 => 141 | 26 => 142 | 27 => 143 | 46 => 152 | 47 => 147 | 48 => 148 | 49 => 153 | 50 => 154 | 57 => 157 | n => n, fun | 22 => 28 | 24 => 3 | 25 => 141 | 3 => 3 | 39 => 145 | 0 => 0 | 53 => 167 | 55 => 111 | 4 => 4 | 46 => 159 | 45 => 158 | 50 => 164 | 5 => 5 | 9 => 9 | 66 => 176 | 70 => 180 | 76 => 184 | 77 => 185 | n => n, fun | n => n⟩
theorem Tryz.laysSlF6_f97 : Go.Proofs.SlLaysF.n6 Tryz.prog Tryz.laysSlF6_f97_ren := {
  mixed := by kernel_rfl
  f6 := ⟨Tryz.f97.name, by decide, Tryz.func97.trans (congrArg some (by kernel_rfl))⟩
  f14 := ⟨Tryz.f118.name, by decide, Tryz.func118.trans (congrArg some (by kernel_rfl))⟩
  f15 := Tryz.func100.trans (congrArg some (by kernel_rfl))
  f20 := ⟨Tryz.f136.name, by decide, Tryz.func136.trans (congrArg some (by kernel_rfl))⟩
  f21 := ⟨Tryz.f137.name, by decide, Tryz.func137.trans (congrArg some (by kernel_rfl))⟩
  f22 := ⟨Tryz.f138.name, by decide, Tryz.func138.trans (congrArg some (by kernel_rfl))⟩
  f23 := ⟨Tryz.f139.name, by decide, Tryz.func139.trans (congrArg some (by kernel_rfl))⟩
  f24 := ⟨Tryz.f140.name, by decide, Tryz.func140.trans (congrArg some (by kernel_rfl))⟩
  f25 := ⟨Tryz.f141.name, by decide, Tryz.func141.trans (congrArg some (by kernel_rfl))⟩
  f26 := ⟨Tryz.f142.name, by decide, Tryz.func142.trans (congrArg some (by kernel_rfl))⟩
  f27 := ⟨Tryz.f143.name, by decide, Tryz.func143.trans (congrArg some (by kernel_rfl))⟩
  f28 := Tryz.func132.trans (congrArg some (by kernel_rfl))
  f29 := Tryz.func133.trans (congrArg some (by kernel_rfl))
  f46 := ⟨Tryz.f152.name, by decide, Tryz.func152.trans (congrArg some (by kernel_rfl))⟩
  f47 := Tryz.func147.trans (congrArg some (by kernel_rfl))
  f48 := Tryz.func148.trans (congrArg some (by kernel_rfl))
  f49 := ⟨Tryz.f153.name, by decide, Tryz.func153.trans (congrArg some (by kernel_rfl))⟩
  f50 := ⟨Tryz.f154.name, by decide, Tryz.func154.trans (congrArg some (by kernel_rfl))⟩
  f57 := ⟨Tryz.f157.name, by decide, Tryz.func157.trans (congrArg some (by kernel_rfl))⟩
  t0 := Tryz.underlying0
  a0 := Tryz.isAgg0
  z0 := Tryz.sizeOf0
  v0 := Tryz.zeroValue0
  t3 := Tryz.underlying3
  a3 := Tryz.isAgg3
  z3 := Tryz.sizeOf3
  v3 := Tryz.zeroValue3
  t4 := Tryz.underlying4
  a4 := Tryz.isAgg4
  z4 := Tryz.sizeOf4
  v4 := Tryz.zeroValue4
  t5 := Tryz.underlying5
  a5 := Tryz.isAgg5
  z5 := Tryz.sizeOf5
  v5 := Tryz.zeroValue5
  t9 := Tryz.underlying9
  a9 := Tryz.isAgg9
  z9 := Tryz.sizeOf9
  v9 := Tryz.zeroValue9
  t22 := Tryz.underlying28
  a22 := Tryz.isAgg28
  z22 := Tryz.sizeOf28
  v22 := Tryz.zeroValue28
  a24 := Tryz.isAgg3
  z24 := Tryz.sizeOf3
  t25 := Tryz.underlying141
  a25 := Tryz.isAgg141
  z25 := Tryz.sizeOf141
  v25 := Tryz.zeroValue141
  t39 := Tryz.underlying145
  a39 := Tryz.isAgg145
  z39 := Tryz.sizeOf145
  v39 := Tryz.zeroValue145
  t45 := Tryz.underlying158
  a45 := Tryz.isAgg158
  z45 := Tryz.sizeOf158
  v45 := Tryz.zeroValue158
  t46 := Tryz.underlying159
  a46 := Tryz.isAgg159
  z46 := Tryz.sizeOf159
  v46 := Tryz.zeroValue159
  t50 := Tryz.underlying164
  a50 := Tryz.isAgg164
  z50 := Tryz.sizeOf164
  v50 := Tryz.zeroValue164
  t53 := Tryz.underlying167
  a53 := Tryz.isAgg167
  z53 := Tryz.sizeOf167
  v53 := Tryz.zeroValue167
  t55 := Tryz.underlying111
  a55 := Tryz.isAgg111
  z55 := Tryz.sizeOf111
  v55 := Tryz.zeroValue111
  t66 := Tryz.underlying176
  a66 := Tryz.isAgg176
  z66 := Tryz.sizeOf176
  v66 := Tryz.zeroValue176
  t70 := Tryz.underlying180
  a70 := Tryz.isAgg180
  z70 := Tryz.sizeOf180
  v70 := Tryz.zeroValue180
  t76 := Tryz.underlying184
  a76 := Tryz.isAgg184
  z76 := Tryz.sizeOf184
  v76 := Tryz.zeroValue184
  t77 := Tryz.underlying185
  a77 := Tryz.isAgg185
  z77 := Tryz.sizeOf185
  v77 := Tryz.zeroValue185 }
open Go.RowKit Go.Lib Go.Sort in
theorem Tryz.slices_SortFunc {α : Type} [Inhabited α] (enc : α → Value) (h1 : OneCell enc) (cf : α → α → Int) (hO : SWO (ltOf cf)) (g : Nat) (cb : Array Value) (blk off cap : Nat) (d : Array α) (w : World) (eg : ∀ args w, (callFunc g args).run Tryz.prog w = .ok (.enter g args) w) (hcmp : CmpLays1 Tryz.prog g cb enc cf blk off d.size w) (hH : Holds enc w blk off d) (hblk : blk < w.heap.size) (hsz : d.size < 4611686018427387904) :
    Calls Tryz.prog 97 #[.slice (some ⟨blk, off, none⟩) d.size cap, .func (.func g) #[] cb] w fun e w' =>
      e = .returned (.tuple #[]) ∧ ∃ d' n os, PermIn 0 d.size d d' ∧ SortedIn (ltOf cf) 0 d.size d' ∧ w' = sortWorld enc w blk off n d' os := Any.slices_SortFunc Tryz.laysSlF6_f97 enc h1 cf hO g cb blk off cap d w eg hcmp hH hblk hsz
def Tryz.laysSlF06_f97_ren : Go.Shelf.Ren := ⟨fun | 6 => 97 | 15 => 100 | 14 => 118 | 28 => 132 | 29 => 133 | 20 => 136 | 21 => 137 | 22 => 138 | 23 => 139 | 24 => 140 | 25 => 141 | 26 => 142 | 27 => 143 | 46 => 152 | 47 => 147 | 48 => 148 | 49 => 153 | 50 => 154 | 57 => 157 | n => n, fun | 22 => 28 | 24 => 3 | 25 => 141 | 3 => 3 | 39 => 145 | 0 => 0 | 53 => 167 | 55 => 111 | 4 => 4 | 46 => 159 | 45 => 158 | 50 => 164 | 5 => 5 | 9 => 9 | 66 => 176 | 70 => 180 | 76 => 184 | 77 => 185 | n => n, fun | n => n⟩
theorem Tryz.laysSlF06_f97 : Go.Proofs.SlLaysF0.n6 Tryz.prog Tryz.laysSlF06_f97_ren := {
  mixed := by kernel_rfl
  f6 := ⟨Tryz.f97.name, by decide, Tryz.func97.trans (congrArg some (by kernel_rfl))⟩
  f14 := ⟨Tryz.f118.name, by decide, Tryz.func118.trans (congrArg some (by kernel_rfl))⟩
  f15 := Tryz.func100.trans (congrArg some (by kernel_rfl))
  f20 := ⟨Tryz.f136.name, by decide, Tryz.func136.trans (congrArg some (by kernel_rfl))⟩
  f21 := ⟨Tryz.f137.name, by decide, Tryz.func137.trans (congrArg some (by kernel_rfl))⟩
  f22 := ⟨Tryz.f138.name, by decide, Tryz.func138.trans (congrArg some (by kernel_rfl))⟩
  f23 := ⟨Tryz.f139.name, by decide, Tryz.func139.trans (congrArg some (by kernel_rfl))⟩
  f24 := ⟨Tryz.f140.name, by decide, Tryz.func140.trans (congrArg some (by kernel_rfl))⟩
  f25 := ⟨Tryz.f141.name, by decide, Tryz.func141.trans (congrArg some (by kernel_rfl))⟩
  f26 := ⟨Tryz.f142.name, by decide, Tryz.func142.trans (congrArg some (by kernel_rfl))⟩
  f27 := ⟨Tryz.f143.name, by decide, Tryz.func143.trans (congrArg some (by kernel_rfl))⟩
  f28 := Tryz.func132.trans (congrArg some (by kernel_rfl))
  f29 := Tryz.func133.trans (congrArg some (by kernel_rfl))
  f46 := ⟨Tryz.f152.name, by decide, Tryz.func152.trans (congrArg some (by kernel_rfl))⟩
  f47 := Tryz.func147.trans (congrArg some (by kernel_rfl))
  f48 := Tryz.func148.trans (congrArg some (by kernel_rfl))
  f49 := ⟨Tryz.f153.name, by decide, Tryz.func153.trans (congrArg some (by kernel_rfl))⟩
  f50 := ⟨Tryz.f154.name, by decide, Tryz.func154.trans (congrArg some (by kernel_rfl))⟩
  f57 := ⟨Tryz.f157.name, by decide, Tryz.func157.trans (congrArg some (by kernel_rfl))⟩
  t0 := Tryz.underlying0
  a0 := Tryz.isAgg0
  z0 := Tryz.sizeOf0
  v0 := Tryz.zeroValue0
  t3 := Tryz.underlying3
  a3 := Tryz.isAgg3
  z3 := Tryz.sizeOf3
  v3 := Tryz.zeroValue3
  t4 := Tryz.underlying4
  a4 := Tryz.isAgg4
  z4 := Tryz.sizeOf4
  v4 := Tryz.zeroValue4
  t5 := Tryz.underlying5
  a5 := Tryz.isAgg5
  z5 := Tryz.sizeOf5
  v5 := Tryz.zeroValue5
  t9 := Tryz.underlying9
  a9 := Tryz.isAgg9
  z9 := Tryz.sizeOf9
  v9 := Tryz.zeroValue9
  t22 := Tryz.underlying28
  a22 := Tryz.isAgg28
  z22 := Tryz.sizeOf28
  v22 := Tryz.zeroValue28
  t25 := Tryz.underlying141
  a25 := Tryz.isAgg141
  z25 := Tryz.sizeOf141
  v25 := Tryz.zeroValue141
  t39 := Tryz.underlying145
  a39 := Tryz.isAgg145
  z39 := Tryz.sizeOf145
  v39 := Tryz.zeroValue145
  t45 := Tryz.underlying158
  a45 := Tryz.isAgg158
  z45 := Tryz.sizeOf158
  v45 := Tryz.zeroValue158
  t46 := Tryz.underlying159
  a46 := Tryz.isAgg159
  z46 := Tryz.sizeOf159
  v46 := Tryz.zeroValue159
  t50 := Tryz.underlying164
  a50 := Tryz.isAgg164
  z50 := Tryz.sizeOf164
  v50 := Tryz.zeroValue164
  t53 := Tryz.underlying167
  a53 := Tryz.isAgg167
  z53 := Tryz.sizeOf167
  v53 := Tryz.zeroValue167
  t55 := Tryz.underlying111
  a55 := Tryz.isAgg111
  z55 := Tryz.sizeOf111
  v55 := Tryz.zeroValue111
  t66 := Tryz.underlying176
  a66 := Tryz.isAgg176
  z66 := Tryz.sizeOf176
  v66 := Tryz.zeroValue176
  t70 := Tryz.underlying180
  a70 := Tryz.isAgg180
  z70 := Tryz.sizeOf180
  v70 := Tryz.zeroValue180
  t76 := Tryz.underlying184
  a76 := Tryz.isAgg184
  z76 := Tryz.sizeOf184
  v76 := Tryz.zeroValue184
  t77 := Tryz.underlying185
  a77 := Tryz.isAgg185
  z77 := Tryz.sizeOf185
  v77 := Tryz.zeroValue185 }
open Go.RowKit Go.Lib Go.Sort in
theorem Tryz.slices_SortFunc_none {α : Type} [Inhabited α] (p : Option Addr) (cap : Nat) (fv : Value) (w : World) :
    Calls Tryz.prog 97 #[.slice p 0 cap, fv] w fun e w' => e = .returned (.tuple #[]) ∧ w' = w := AnyF.slices_SortFunc_none Tryz.laysSlF06_f97 p cap fv w
end Go.Proofs

namespace Go.Proofs.YtiblmojdjnfoaaaGreat
open Go.RowKit Fl Lm

theorem cf_lt {T : Nat → Tr} (hT : ∀ i, (T i).Mo) (k i j : Nat) : decide (cfT T k i j < 0) = ltK (keyT T k) i j := by
  obtain ⟨a, b, e, _, _⟩ := ord_val (key_mo hT k i).num (key_mo hT k j).num
  unfold cfT cmpF ltK ltB eqB orI cmpI
  rw [e]
  generalize compare a b = o
  cases o
  · simp
  · by_cases h : i < j
    · simp [h]
    · by_cases h2 : j < i
      · simp [h, h2]
      · simp [h, h2]
  · simp
theorem cf_swo {T : Nat → Tr} (hT : ∀ i, (T i).Mo) (k m : Nat) : Sort.SWO (Go.Proofs.ltOf fun (x y : Fin (m + 1)) => cfT T k x y) where
  irrefl x := by
    show decide (cfT T k x x < 0) = false
    rw [cf_lt hT, ltK_no fun i => (key_mo hT k i).num]
    exact .inr ⟨rfl, Nat.le_refl _⟩
  trans x y z h1 h2 := by
    have h1' : ltK (keyT T k) x y = true := (cf_lt hT k x y).symm.trans h1
    have h2' : ltK (keyT T k) y z = true := (cf_lt hT k y z).symm.trans h2
    show decide (cfT T k x z < 0) = true
    rw [ltK_iff fun i => (key_mo hT k i).num] at h1' h2'
    rw [cf_lt hT, ltK_iff fun i => (key_mo hT k i).num]
    rcases h1' with a | ⟨a, b⟩ <;> rcases h2' with c | ⟨c, d⟩
    · exact .inl (by grind)
    · exact .inl (by grind)
    · exact .inl (by grind)
    · exact .inr ⟨by grind, Nat.lt_trans b d⟩
  ntrans x y z h1 h2 := by
    have h1' : ltK (keyT T k) x y = false := (cf_lt hT k x y).symm.trans h1
    have h2' : ltK (keyT T k) y z = false := (cf_lt hT k y z).symm.trans h2
    show decide (cfT T k x z < 0) = false
    rw [ltK_no fun i => (key_mo hT k i).num] at h1' h2'
    rw [cf_lt hT, ltK_no fun i => (key_mo hT k i).num]
    rcases h1' with a | ⟨a, b⟩ <;> rcases h2' with c | ⟨c, d⟩
    · exact .inl (by grind)
    · exact .inl (by grind)
    · exact .inl (by grind)
    · exact .inr ⟨by grind, Nat.le_trans d b⟩

section
variable {α : Type} [Inhabited α] (enc : α → Value) (w : World) (blk off m : Nat) (dk : Array α) (os : Array Obj)
theorem sortW_heap {k : Nat} (hk : k < w.heap.size) (hn : k ≠ blk) : (sortWorld enc w blk off m dk os).heap[k]? = w.heap[k]? := by
  unfold sortWorld
  rw [Sort.heap_grow_old _ _ (by rw [size_putRow]; exact hk)]
  show (w.heap.modify blk _)[k]? = _
  rw [Array.getElem?_modify, if_neg (Ne.symm hn)]
theorem sortW_size : w.heap.size ≤ (sortWorld enc w blk off m dk os).heap.size := by
  unfold sortWorld
  rw [Sort.size_grow, size_putRow]
  show w.heap.size ≤ w.heap.size + _
  omega
theorem sortW_cl {W : World} (h : Cl W w) (hb : W.heap.size ≤ blk) : Cl W (sortWorld enc w blk off m dk os) :=
  ⟨h.os, h.tape, h.output, Nat.le_trans h.size (sortW_size enc w blk off m dk os), fun k hk => (sortW_heap enc w blk off m dk os (Nat.lt_of_lt_of_le hk h.size) (by omega)).trans (h.block k hk)⟩
theorem sortW_bk {b : Nat} {vs : Array Value} {t : TypeId} (h : Lp.Bk w b vs t) (hn : b ≠ blk) : Lp.Bk (sortWorld enc w blk off m dk os) b vs t := (sortW_heap enc w blk off m dk os h.lt hn).trans h
end
/-- The numbers as places. -/
def finL (m : Nat) (l : List Nat) : Array (Fin (m + 1)) := (l.map fun i => Fin.ofNat (m + 1) i).toArray
theorem finL_size (m : Nat) (l : List Nat) : (finL m l).size = l.length := by simp [finL]
theorem finL_at {m : Nat} {l : List Nat} (hl : ∀ i, i ∈ l → i < m + 1) {j : Nat} (hj : j < l.length) : ((finL m l)[j]!).val = l.getD j 0 := by
  have h1 : j < (finL m l).size := by rw [finL_size]; exact hj
  rw [getElem!_pos _ j h1]
  have e : l.getD j 0 = l[j] := by rw [List.getD_eq_getElem?_getD, List.getElem?_eq_getElem hj]; rfl
  rw [e]
  show ((l.map fun i => Fin.ofNat (m + 1) i).toArray[j]'(by simpa using hj)).val = _
  simp only [List.getElem_toArray, List.getElem_map]
  exact Nat.mod_eq_of_lt (hl _ (List.getElem_mem hj))
theorem finL_back {m : Nat} {l : List Nat} (hl : ∀ i, i ∈ l → i < m + 1) : (finL m l).toList.map (fun x => x.val) = l := by
  unfold finL
  rw [List.map_map]
  conv => rhs; rw [← List.map_id l]
  exact List.map_congr_left fun i hi => Nat.mod_eq_of_lt (hl i hi)
theorem sorted_med {T : Nat → Tr} (hT : ∀ i, (T i).Mo) {k m : Nat} {l : List Nat} (hl : ∀ i, i ∈ l → i < m + 1) {d' : Array (Fin (m + 1))} (hp : Sort.PermIn 0 (finL m l).size (finL m l) d')
    (hs : Sort.SortedIn (Go.Proofs.ltOf fun (x y : Fin (m + 1)) => cfT T k x y) 0 (finL m l).size d') : d'.toList.map (fun x => x.val) = medF (keyT T k) l := by
  obtain ⟨h1, _, h3⟩ := hp
  refine med_uniq (fun i => (key_mo hT k i).num) ?_ ?_
  · have : d'.toList.Perm (finL m l).toList := by
      have e1 : d'.extract 0 (finL m l).size = d' := by rw [← h1]; exact Array.extract_size
      have e2 : (finL m l).extract 0 (finL m l).size = finL m l := Array.extract_size
      rwa [e1, e2] at h3
    have := this.map (fun x => x.val)
    rwa [finL_back hl] at this
  · rw [List.pairwise_iff_getElem]
    intro i j hi hj hij
    simp only [List.length_map, Array.length_toList] at hi hj
    have := hs i j (Nat.zero_le _) hij (by rw [← h1]; exact hj)
    rw [getElem!_pos _ i hi, getElem!_pos _ j hj] at this
    simp only [List.getElem_map, Array.getElem_toList]
    rw [← cf_lt hT]
    exact this

/-- Two lists are handed back, in blocks of the call's own. -/
def TwoL (w w' : World) (v : Value) (x y : List Nat) : Prop := ∃ a c b d, v = .tuple #[.slice a x.length c, .slice b y.length d] ∧ Sl w' a x.length 1 (lvs x) ∧ Sl w' b y.length 1 (lvs y) ∧ (∀ g o, a = some ⟨g, o, none⟩ → w.heap.size ≤ g) ∧ (∀ g o, b = some ⟨g, o, none⟩ → w.heap.size ≤ g) ∧ Cl w w'
theorem lvs_take {l : List Nat} {m i : Nat} (h : i < m) : lvs (l.take m) i = lvs l i := by
  unfold lvs
  rw [List.getD_eq_getElem?_getD, List.getD_eq_getElem?_getD, List.getElem?_take, if_pos h]
theorem lvs_drop (l : List Nat) (m i : Nat) : lvs (l.drop m) i = lvs l (m + i) := by
  unfold lvs
  rw [List.getD_eq_getElem?_getD, List.getD_eq_getElem?_getD, List.getElem?_drop]

theorem iclone_any {ao : Option Addr} {c : Nat} {l : List Nat} {w : World} (hL : Sl w ao l.length 1 (lvs l)) (h0 : 0 < l.length) (h5 : l.length ≤ 1000) :
    Calls Tryz.prog 96 #[.slice ao l.length c] w fun e w' => ∃ g c', e = .returned (.slice (some ⟨g, 0, none⟩) l.length c') ∧ l.length ≤ c' ∧ w.heap.size ≤ g ∧ g < w'.heap.size ∧ (∀ j, j < l.length → w'.cell? ⟨g, j, none⟩ = some (.int .i64 ((l.getD j 0 : Nat) : Int)) ∧ w'.frozen? ⟨g, j, none⟩ = false) ∧ Cl w w' := by
  obtain ⟨g, o, rfl, E⟩ := hL.get h0
  have hz : ∀ j, ((l.map fun i : Nat => (i : Int)).getD j 0) = ((l.getD j 0 : Nat) : Int) := fun j => by
    simp only [List.getD_eq_getElem?_getD, List.getElem?_map]
    cases l[j]? <;> rfl
  refine Calls.mono (Tryz.slices_Clone_int g o l.length c (l.map fun i : Nat => (i : Int)) w (by simp) (by omega) fun j hj => ?_) ?_
  · rw [hz j]
    exact E.num (by simpa using hj)
  · rintro e w' ⟨v, rfl, hown, hne, hb⟩
    have hown0 := hown
    rcases hown.2 with ⟨h2, _⟩ | ⟨g', cap, cur, rfl, hg, hh, h1, h2, h3, h4⟩
    · exact absurd h2 hne
    · refine ⟨g', cap, rfl, h1, hg, (Array.getElem?_eq_some_iff.1 hh).1, fun j hj => ⟨?_, ?_⟩, hb⟩
      · rw [hown0.cellAt j (by omega)]
        rw [List.take_of_length_le (by simp), List.getElem?_map, List.getElem?_map, List.getD_eq_getElem?_getD, List.getElem?_eq_getElem hj]
        rfl
      · exact hown0.frozenAt j

set_option maxRecDepth 100000 in
set_option maxHeartbeats 1000000 in
theorem along_any (ab am : Option Addr) (n cb cm k : Nat) (w : World) : Calls Tryz.prog 98 #[.agg #[.slice ab n cb, .slice am n cm], .int .i64 (k : Int)] w fun e w' => e = .returned (.func (.func 119) #[] #[.pointer (some ⟨w.heap.size, 0, none⟩), .pointer (some ⟨w.heap.size + 1, 0, none⟩)]) ∧ w' = (w.alloc (.cells #[.slice ab n cb, .slice am n cm] 77)).alloc (.cells #[.int .i64 (k : Int)] 3) := by
  go_enter Tryz.func98, Tryz.ntmps98
  go_wp2_with fail
  go_ret
  exact ⟨rfl, rfl⟩

theorem enters_along : ∀ args w, (callFunc 119 args).run Tryz.prog w = .ok (.enter 119 args) w := enters_of Tryz.func119 (by kernel_rfl) rfl

theorem sort_any (T : Nat → Tr) (hT : ∀ i, (T i).Mo) (m cb cm k gl c1 gs ga : Nat) (ab am : Option Addr) (l : List Nat) (w w2 : World) (hS : Shp T w (m + 1) ab am) (hl : ∀ i, i ∈ l → i < m + 1) (h5 : l.length ≤ 512) (hg : w.heap.size ≤ gl) (hgl : gl < w2.heap.size)
    (hc : ∀ j, j < l.length → w2.cell? ⟨gl, j, none⟩ = some (.int .i64 ((l.getD j 0 : Nat) : Int)) ∧ w2.frozen? ⟨gl, j, none⟩ = false) (hcl : Cl w w2) (hs : Lp.Bk w2 gs #[.slice ab (m + 1) cb, .slice am (m + 1) cm] 77) (ha : Lp.Bk w2 ga #[.int .i64 (k : Int)] 3) (ns : gs ≠ gl) (na : ga ≠ gl) :
    Calls Tryz.prog 97 #[.slice (some ⟨gl, 0, none⟩) l.length c1, .func (.func 119) #[] #[.pointer (some ⟨gs, 0, none⟩), .pointer (some ⟨ga, 0, none⟩)]] w2 fun e w' =>
      e = .returned (.tuple #[]) ∧ Els w' gl 0 l.length 1 (lvs (medF (keyT T k) l)) ∧ Cl w w' := by
  have hH : Sort.Holds (fun x : Fin (m + 1) => Value.int .i64 (x.val : Int)) w2 gl 0 (finL m l) := fun j hj => by
    rw [finL_size] at hj
    have := hc j hj
    rw [Nat.zero_add]
    refine ⟨?_, this.2⟩
    rw [this.1]
    exact congrArg (fun z : Nat => some (Value.int .i64 (z : Int))) (finL_at hl hj).symm
  have hsz : (finL m l).size = l.length := finL_size m l
  have hcmp : CmpLays1 Tryz.prog 119 #[.pointer (some ⟨gs, 0, none⟩), .pointer (some ⟨ga, 0, none⟩)] (fun x : Fin (m + 1) => Value.int .i64 (x.val : Int)) (fun x y => cfT T k x y) gl 0 (finL m l).size w2 := by
    intro q os dk hk x y
    refine Calls.mono (along1_any T hT (m + 1) cb cm gs ga k x y ab am _ (sortW_bk _ _ _ _ _ _ _ hs ns) (sortW_bk _ _ _ _ _ _ _ ha na) (hS.keep (sortW_cl _ _ _ _ _ _ _ hcl hg)) x.isLt y.isLt) ?_
    rintro e w' ⟨v, rfl, rfl, hgr⟩
    obtain ⟨q2, os2, hw⟩ := hgr.eq
    exact ⟨rfl, q2, os2, hw⟩
  have hcon := Tryz.slices_SortFunc (fun x : Fin (m + 1) => Value.int .i64 (x.val : Int)) (fun _ => rfl) (fun x y => cfT T k x y) (cf_swo hT k m) 119 #[.pointer (some ⟨gs, 0, none⟩), .pointer (some ⟨ga, 0, none⟩)] gl 0 c1 (finL m l) w2 enters_along hcmp hH hgl (by rw [hsz]; omega)
  rw [hsz] at hcon
  refine Calls.mono hcon ?_
  rintro e w' ⟨rfl, d', q, os, hp, hso, rfl⟩
  rw [← hsz] at hp hso
  have hmed := sorted_med hT hl hp hso
  have hs2 : d'.size = (finL m l).size := hp.1
  have hH2 := holds_sortWorld (fun x : Fin (m + 1) => Value.int .i64 (x.val : Int)) w2 gl 0 q (finL m l) d' os hgl hH hs2
  refine ⟨rfl, ⟨Nat.lt_of_lt_of_le hgl (sortW_size _ _ _ _ _ _ _), fun i hi j hj => ?_⟩, sortW_cl _ _ _ _ _ _ _ hcl hg⟩
  obtain rfl : j = 0 := by omega
  have hi2 : i < d'.size := by rw [hs2, hsz]; exact hi
  have := (hH2 i hi2).1
  have e0 : 0 + (i * 1 + 0) = 0 + i := by omega
  rw [e0]
  refine this.trans ?_
  rw [← hmed]
  have e1 : d'.toList[i]? = some d'[i] := (Array.getElem?_toList (xs := d') (i := i)).trans (Array.getElem?_eq_getElem hi2)
  unfold lvs
  rw [List.getD_eq_getElem?_getD, List.getElem?_map, e1, getElem!_pos _ i hi2]
  rfl

set_option maxRecDepth 100000 in
set_option maxHeartbeats 1000000 in
theorem bymed_any (T : Nat → Tr) (hT : ∀ i, (T i).Mo) (n cb cm cl k : Nat) (ab am ao : Option Addr) (l : List Nat) (w : World) (hS : Shp T w n ab am) (hL : Sl w ao l.length 1 (lvs l)) (hl : ∀ i, i ∈ l → i < n) (h0 : 0 < l.length) (h5 : l.length ≤ 512) :
    Calls Tryz.prog 77 #[.agg #[.slice ab n cb, .slice am n cm], .slice ao l.length cl, .int .i64 (k : Int)] w fun e w' => ∃ v, e = .returned v ∧ TwoL w w' v ((medF (keyT T k) l).take (l.length / 2)) ((medF (keyT T k) l).drop (l.length / 2)) := by
  obtain ⟨m, rfl⟩ : ∃ m, n = m + 1 := ⟨n - 1, by
    obtain ⟨i, hi⟩ := List.exists_mem_of_length_pos h0
    have := hl i hi
    omega⟩
  have HS := hid hS
  have HC := hid (iclone_any (c := cl) (hL.keep (w' := w.alloc (.cells #[.slice ab (m + 1) cb, .slice am (m + 1) cm] 77)) ((Below.refl _ _).alloc (Nat.le_refl _) _)) h0 (by omega))
  have HM := aside hl
  have HML := aside ((med_perm (keyT T k) l).length_eq)
  have HT := aside hT
  clear hS hL hl hT
  go_enter Tryz.func77, Tryz.ntmps77
  go_wp2_with fail
  refine Calls.mono HC.out ?_
  rintro e w1 ⟨gl, c1, rfl, hcap, hg1, hg2, hc, hb⟩
  have hb1 : Cl w w1 := ((Below.refl _ _).alloc (Nat.le_refl _) _).trans (hb.mono (by simp))
  have BS := hid ((Lp.Bk.al w #[.slice ab (m + 1) cb, .slice am (m + 1) cm] 77).keep hb)
  have hg3 : w.heap.size < gl := by simp at hg1; omega
  have HCE := hid hc
  have HB := hid hb1
  have HG := aside (And.intro hg2 hg3)
  clear HC hc hb hb1 hg1
  have kS := BS.out.cell
  have hmn : (w.heap.size = w1.heap.size) = False := eq_false (by omega)
  have hml : w.heap.size < w1.heap.size := by omega
  go_wp2_with fail
  refine Calls.mono (along_any _ _ _ _ _ _ _) ?_
  rintro e w2 ⟨rfl, rfl⟩
  clear kS hmn hml BS
  go_wp2_with fail
  have g1 := HG.out.1
  have g2 := HG.out.2
  have hbl := ((Below.refl w1.heap.size w1).alloc (Nat.le_refl _) (.cells #[.slice ab (m + 1) cb, .slice am (m + 1) cm] 77)).alloc (by simp) (.cells #[.int .i64 (k : Int)] 3)
  have HSO := hid (sort_any T HT.out m cb cm k gl c1 w1.heap.size (w1.heap.size + 1) ab am l w _ HS.out HM.out h5 (by omega) (by simp; omega) (fun j hj => ⟨(hbl.cell (p := ⟨gl, j, none⟩) g1).trans (HCE.out j hj).1, (hbl.frozen (p := ⟨gl, j, none⟩) g1).trans (HCE.out j hj).2⟩) ((HB.out.alloc _).alloc _) ((Lp.Bk.al w1 #[.slice ab (m + 1) cb, .slice am (m + 1) cm] 77).alo _) (Lp.Bk.al1 _ _ #[.int .i64 (k : Int)] 3) (by omega) (by omega))
  refine Calls.mono HSO.out ?_
  clear HSO
  rintro e w3 ⟨rfl, hE, hcl⟩
  have HE := hid hE
  have HCL := hid hcl
  clear hE hcl HCE
  have hq : ((l.length : Int).tdiv 2) = ((l.length / 2 : Nat) : Int) := by rw [Int.tdiv_eq_ediv_of_nonneg (by omega)]; omega
  have hh1 : l.length / 2 ≤ l.length := by omega
  generalize hhalf : l.length / 2 = h at *
  have HH := aside hhalf
  have hh2 : h ≤ c1 := by omega
  have hh3 : (c1 = h) = False := eq_false (by omega)
  have hh4 : (h = c1) = False := eq_false (by omega)
  clear hhalf
  go_wp2_with fail
  apply Lw.region _ _ 8 (by kernel_rfl) (by kernel_rfl) (by kernel_rfl) (Below.refl _ _)
  iterate 8 (
    apply Lw.one ?_ rfl
    · intro w hw
      go_simp
      exact rfl
    intro K hK
    go_simp
    refine hK.out _ ?_
    clear hK K)
  rotate_left
  exact []
  refine Lw.fin ?_
  intro v4 hm
  go_wp2_with fail
  have hml := HML.out
  have hE := HE.out.keep hm
  refine bodyPost_ret (v := .tuple #[.slice (some ⟨gl, 0, none⟩) h c1, .slice (some ⟨gl, h, none⟩) (l.length - h) (c1 - h)]) (by simp [results, go_sem]) rfl ⟨_, rfl, some ⟨gl, 0, none⟩, c1, some ⟨gl, h, none⟩, c1 - h, ?_, ?_, ?_, ?_, ?_, HCL.out.call hm⟩
  · rw [HH.out, List.length_take, List.length_drop, hml, Nat.min_eq_left hh1]
  · rw [HH.out, List.length_take, hml, Nat.min_eq_left hh1]
    exact .inr ⟨gl, 0, rfl, (hE.less hh1).congr fun i hi => (lvs_take hi).symm⟩
  · rw [HH.out, List.length_drop, hml]
    refine .inr ⟨gl, h, rfl, ?_⟩
    have := (hE.part (m := h) (l := l.length - h) (by omega)).congr (e' := lvs ((medF (keyT T k) l).drop h)) fun i hi => (lvs_drop _ _ _).symm
    rwa [Nat.mul_one, Nat.zero_add] at this
  · rintro g o ⟨rfl, rfl⟩
    omega
  · rintro g o ⟨rfl, rfl⟩
    omega

end Go.Proofs.YtiblmojdjnfoaaaGreat

namespace Go.Proofs.YtiblmojdjnfoaaaGreat
open Go.RowKit Fl Lm

theorem filter_more (p : Nat → Bool) {l : List Nat} {j : Nat} (hj : j < l.length) : (l.take (j + 1)).filter p = if p (l.getD j 0) = true then (l.take j).filter p ++ [l.getD j 0] else (l.take j).filter p := by
  rw [take_more hj, List.filter_append]
  by_cases h : p (l.getD j 0) = true
  · rw [if_pos h, List.filter_cons, if_pos h]; rfl
  · rw [if_neg h, List.filter_cons, if_neg h]; simp
theorem lvs_snoc {L : List Nat} {x i : Nat} (h : i < L.length) : lvs L i = lvs (L ++ [x]) i := by
  unfold lvs
  rw [List.getD_eq_getElem?_getD, List.getD_eq_getElem?_getD, List.getElem?_append_left h]
theorem lvs_last (L : List Nat) (x : Nat) : lvs (L ++ [x]) L.length = [.int .i64 (x : Int)] := by
  unfold lvs
  rw [List.getD_eq_getElem?_getD, List.getElem?_append_right (Nat.le_refl _), Nat.sub_self]
  rfl
theorem Own.snoc {N : Nat} {w w' : World} {ty : TypeId} {v v' : Value} {L : List Nat} {x : Nat} (h : Own N w ty 1 v L.length (lvs L)) (h1 : w'.ownsRow 0 ty 1 v' (L.length + 1) (flat L.length (lvs L) ++ [.int .i64 (x : Int)])) (hb : v'.ownBlock = v.ownBlock ∨ ∀ g, v'.ownBlock = some g → w.heap.size ≤ g) (hN : N ≤ w.heap.size) :
    Own N w' ty 1 v' (L ++ [x]).length (lvs (L ++ [x])) := by
  have := h.push h1 hb hN (fun i hi => lvs_snoc hi) (lvs_last L x)
  rwa [show (L ++ [x]).length = L.length + 1 by simp]
/-- What is known while a list is parted. -/
structure SplS (w0 w : World) (sv : Array Value) (l1 l2 : Value) (L1 L2 : List Nat) : Prop where
  bS : Lp.Bk w w0.heap.size sv 77
  o1 : Own (w0.heap.size + 1) w 3 1 l1 L1.length (lvs L1)
  o2 : Own (w0.heap.size + 1) w 3 1 l2 L2.length (lvs L2)
  ap : Apart2 l1 l2
  cl : Cl w0 w
section
variable {w0 w w' : World} {sv : Array Value} {l1 l2 v' : Value} {L1 L2 : List Nat} {x : Nat}
theorem SplS.keep (h : SplS w0 w sv l1 l2 L1 L2) (hb : Below w.heap.size w w') : SplS w0 w' sv l1 l2 L1 L2 := ⟨h.bS.keep hb, h.o1.keep hb, h.o2.keep hb, h.ap, h.cl.call hb⟩
theorem SplS.alo (h : SplS w0 w sv l1 l2 L1 L2) (o : Obj) : SplS w0 (w.alloc o) sv l1 l2 L1 L2 := h.keep ((Below.refl _ _).alloc (Nat.le_refl _) _)
theorem SplS.push1 (h : SplS w0 w sv l1 l2 L1 L2) (h1 : w'.ownsRow 0 3 1 v' (L1.length + 1) (flat L1.length (lvs L1) ++ [.int .i64 (x : Int)])) (hg : w.grownBy w' l1.ownBlock) (hb : v'.ownBlock = l1.ownBlock ∨ ∀ g, v'.ownBlock = some g → w.heap.size ≤ g) : SplS w0 w' sv v' l2 (L1 ++ [x]) L2 :=
  ⟨Bk_grown h.bS hg fun g e => by have := h.o1.lo g e; omega, h.o1.snoc h1 hb h.bS.lt, h.o2.other hg fun g e e2 => h.ap g e2 e, h.ap.push h.o2 hb, Cl_grown h.cl hg fun g e => by have := h.o1.lo g e; omega⟩
theorem SplS.push2 (h : SplS w0 w sv l1 l2 L1 L2) (h1 : w'.ownsRow 0 3 1 v' (L2.length + 1) (flat L2.length (lvs L2) ++ [.int .i64 (x : Int)])) (hg : w.grownBy w' l2.ownBlock) (hb : v'.ownBlock = l2.ownBlock ∨ ∀ g, v'.ownBlock = some g → w.heap.size ≤ g) : SplS w0 w' sv l1 v' L1 (L2 ++ [x]) :=
  ⟨Bk_grown h.bS hg fun g e => by have := h.o2.lo g e; omega, h.o1.other hg fun g e e2 => h.ap g e e2, h.o2.snoc h1 hb h.bS.lt, (h.ap.symm.push h.o1 hb).symm, Cl_grown h.cl hg fun g e => by have := h.o2.lo g e; omega⟩
end

set_option maxRecDepth 100000 in
set_option maxHeartbeats 1000000 in
theorem bysur_any (T : Nat → Tr) (hT : ∀ i, (T i).Mo) (n cb cm cl b0 b1 b2 b3 : Nat) (ab am ao : Option Addr) (l : List Nat) (w : World) (hS : Shp T w n ab am) (hL : Sl w ao l.length 1 (lvs l)) (hl : ∀ i, i ∈ l → i < n) (h0 : 0 < l.length) (h5 : l.length ≤ 512)
    (ha : (ford (hiT T l) (loT T l) == some .gt) = true) (hF : BinFn w n am (axT T l) (loT T l) (hiT T l) b0 b1 b2 b3) :
    Calls Tryz.prog 75 #[.agg #[.slice ab n cb, .slice am n cm], .slice ao l.length cl, binV b0 b1 b2 b3] w fun e w' => ∃ v, e = .returned v ∧ TwoL w w' v (leftT T l (bcutT T l)) (restT T l (bcutT T l)) := by
  obtain ⟨hB, ⟨i0, hi0, _⟩, _⟩ := apart_of hT h0 ha
  have hc := fun k k1 k7 => (costs_same hT h0 h5 ha (k := k) k1 k7).1
  have hcnt : ∀ i, i < 8 → (binsT T l i).1 ≤ 512 := fun i _ => by
    rw [(bins_P hT l).cnt i]
    exact Nat.le_trans (List.length_filter_le _ _) h5
  have nl := (num_of_sub (hB i0 hi0).s1).2
  have nh := (num_of_sub (hB i0 hi0).s2).1
  have HBIN := hid (fun w' (hw : Below w.heap.size w w') => binned_any T hT n cb cm cl (axT T l) (loT T l) (hiT T l) b0 b1 b2 b3 ab am ao l w' (hS.keep hw) (hL.keep hw) hl h5 (hF.keep hw) nl nh hB)
  have HCH := hid (fun w' => cheapest_any (binsT T l) hcnt hc w')
  have eb : binsG (fun i => (binF (loT T l) (hiT T l) (keyT T (axT T l) i)).toNat) T l = binsT T l := rfl
  have ec : (bestP (cP (binsT T l)) 7).1 = bcutT T l := rfl
  rw [eb] at HBIN
  rw [ec] at HCH
  have HB1 : Hid (∀ (w' : World), Below w.heap.size w w' → ∀ i, i ∈ l → Ret Tryz.prog 95 #[.int .i64 (i : Int), .pointer (some ⟨b0, 0, none⟩), .pointer (some ⟨b1, 0, none⟩), .pointer (some ⟨b2, 0, none⟩), .pointer (some ⟨b3, 0, none⟩)] w' (fun v => v = .int .i64 (binT T l i))) := hid (fun w' (hw : Below w.heap.size w w') i hi => bin1_any T hT n (axT T l) (loT T l) (hiT T l) b0 b1 b2 b3 i am w' (hF.keep hw) (hS.keep hw).md (hl i hi) nl nh (hB i hi))
  have HL := hid hL
  unfold leftT restT
  generalize binsT T l = BB at *
  generalize bcutT T l = cut at *
  generalize binA BB = BA at *
  generalize binT T l = bz at *
  have hml := aside hl
  obtain ⟨iI, hI0, hI1, hI2, hI3⟩ := info_int
  clear hS hL hl hB hF hc hcnt eb ec nl nh
  have HH := aside (And.intro h0 h5)
  clear h0 ha
  unfold binV at *
  go_enter Tryz.func75, Tryz.ntmps75
  go_wp2_with fail
  refine Calls.mono (HBIN.out _ ((Below.refl _ _).alloc (Nat.le_refl _) _)) ?_
  rintro e w1 ⟨v, rfl, rfl, hm⟩
  have BS := (Lp.Bk.al w #[.slice ab n cb, .slice am n cm] 77).keep hm
  have HB : Cl w w1 := ((Below.refl _ _).alloc (Nat.le_refl _) _).trans (hm.mono (by simp))
  clear hm HBIN
  go_wp2_with fail
  refine Calls.mono (HCH.out _) ?_
  rintro e w2 ⟨v, rfl, rfl, hm⟩
  replace BS := BS.keep hm
  replace HB := HB.call hm
  clear hm HCH
  go_wp2_with fail
  go_loopg [6, 7, 18] l.length (fun kk l1 l2 i wr => ∃ (j : Nat), kk + j = l.length ∧ i = .int .i64 (j : Int) ∧ SplS w wr #[.slice ab n cb, .slice am n cm] l1 l2 ((l.take j).filter fun i => decide (bz i < (cut : Int))) ((l.take j).filter fun i => !decide (bz i < (cut : Int))))
  case atStart => exact ⟨0, Nat.add_zero _, rfl, BS, Own.nil _ _ _ _ _, Own.nil _ _ _ _ _, fun g h => (by cases h), HB⟩
  case round =>
    clear BS HB
    obtain ⟨g0, hg0⟩ : ∃ g0, g0 = gk := ⟨_, rfl⟩
    subst hg0
    obtain ⟨j, hk, rfl, hS⟩ := hrel
    have HK := aside hk
    clear hk
    by_cases hj : j < l.length
    · have hd : ((j : Int) < (l.length : Int)) = True := eq_true (by omega)
      have hmem := getD_mem hj
      have HBX := hid (HB1.out wr hS.cl _ hmem)
      obtain ⟨gl, ol, rfl, EL⟩ := (HL.out.keep hS.cl).get hj
      have kL := EL.num hj
      have HE1 := aside (filter_more (fun i => decide (bz i < (cut : Int))) hj)
      have HE2 := aside (filter_more (fun i => !decide (bz i < (cut : Int))) hj)
      have hl1 : ((l.take j).filter fun i => decide (bz i < (cut : Int))).length ≤ j := Nat.le_trans (List.length_filter_le _ _) (by rw [List.length_take]; omega)
      have hl2 : ((l.take j).filter fun i => !decide (bz i < (cut : Int))).length ≤ j := Nat.le_trans (List.length_filter_le _ _) (by rw [List.length_take]; omega)
      have HLE := aside (And.intro hl1 (And.intro hl2 h5))
      have hj5 : j < 512 := by omega
      have hjl := aside hj
      clear EL hmem hj hl1 hl2
      generalize (l.take j).filter (fun i => decide (bz i < (cut : Int))) = L1 at *
      generalize (l.take j).filter (fun i => !decide (bz i < (cut : Int))) = L2 at *
      generalize l.getD j 0 = x at *
      generalize bz x = z at *
      obtain ⟨a1, c1, rfl⟩ := hS.o1.slice
      obtain ⟨a2, c2, rfl⟩ := hS.o2.slice
      have HS := hid hS
      clear hS
      by_cases hp : z < (cut : Int)
      · have hp1 : (z < (cut : Int)) = True := eq_true hp
        have HE1' := aside (HE1.out.trans (if_pos (decide_eq_true hp)))
        have HE2' := aside (HE2.out.trans (if_neg (by rw [decide_eq_true hp]; decide)))
        clear HE1 HE2 hp
        go_wp2_with fail
        refine Calls.mono HBX.out ?_
        rintro e v5 ⟨v, rfl, rfl, hm⟩
        have HS2 := hid (HS.out.keep hm)
        clear hm kL HS HBX
        go_wp2_with ((at_builtin; refine wpList_push _ rfl _ _ 28 rfl 3 iI (.int .i64 0) 1 8 under_ints hI0 hI1 hI2 hI3 rfl (by decide) (.slice a1 L1.length c1) L1.length (flat L1.length (lvs L1)) rfl (HS2.out.o1.row.alloc _) ⟨v5.heap.size, 0, none⟩ 1 1 [.int .i64 (x : Int)] rfl rfl (cells_at0 (Lp.Bk.al _ _ _)) (by simp [Value.oneCell']) (max_small (by have := HLE.out; omega)) (by have := HLE.out; omega) ?_))
        intro v' w7 hown hg hb
        have HS3 := hid ((HS2.out.alo _).push1 hown hg (hb.imp id fun h k hk => by have := h k hk; simp at this ⊢; omega))
        obtain ⟨a3, c3, rfl, -⟩ := owns_slice hown
        clear hown hg hb HS2
        go_wp2_with fail
        go_roundg (g0 - 1)
        case measure => have := HK.out; have := hjl.out; omega
        case rel =>
          refine ⟨j + 1, by have := HK.out; have := hjl.out; omega, by go_num, ?_⟩
          rw [HE1'.out, HE2'.out]
          exact HS3.out
      · have hp1 : (z < (cut : Int)) = False := eq_false hp
        have HE1' := aside (HE1.out.trans (if_neg (by rw [decide_eq_false hp]; decide)))
        have HE2' := aside (HE2.out.trans (if_pos (by rw [decide_eq_false hp]; rfl)))
        clear HE1 HE2 hp
        go_wp2_with fail
        refine Calls.mono HBX.out ?_
        rintro e v5 ⟨v, rfl, rfl, hm⟩
        have HS2 := hid (HS.out.keep hm)
        clear hm kL HS HBX
        go_wp2_with ((at_builtin; refine wpList_push _ rfl _ _ 28 rfl 3 iI (.int .i64 0) 1 8 under_ints hI0 hI1 hI2 hI3 rfl (by decide) (.slice a2 L2.length c2) L2.length (flat L2.length (lvs L2)) rfl (HS2.out.o2.row.alloc _) ⟨v5.heap.size, 0, none⟩ 1 1 [.int .i64 (x : Int)] rfl rfl (cells_at0 (Lp.Bk.al _ _ _)) (by simp [Value.oneCell']) (max_small (by have := HLE.out; omega)) (by have := HLE.out; omega) ?_))
        intro v' w7 hown hg hb
        have HS3 := hid ((HS2.out.alo _).push2 hown hg (hb.imp id fun h k hk => by have := h k hk; simp at this ⊢; omega))
        obtain ⟨a3, c3, rfl, -⟩ := owns_slice hown
        clear hown hg hb HS2
        go_wp2_with fail
        go_roundg (g0 - 1)
        case measure => have := HK.out; have := hjl.out; omega
        case rel =>
          refine ⟨j + 1, by have := HK.out; have := hjl.out; omega, by go_num, ?_⟩
          rw [HE1'.out, HE2'.out]
          exact HS3.out
    · have hd : ((j : Int) < (l.length : Int)) = False := eq_false (by omega)
      have hjl : j = l.length := by have := HK.out; omega
      subst hjl
      rw [List.take_of_length_le (Nat.le_refl _)] at hS
      obtain ⟨a1, c1, rfl⟩ := hS.o1.slice
      obtain ⟨a2, c2, rfl⟩ := hS.o2.slice
      have HS := hid hS
      clear hS hj
      go_wp2_with fail
      refine bodyPost_ret (v := _) (by simp [results, go_sem]) rfl ⟨_, rfl, a1, c1, a2, c2, rfl, HS.out.o1.sl (fun _ _ => rfl), HS.out.o2.sl (fun _ _ => rfl), ?_, ?_, HS.out.cl⟩
      · rintro g o rfl
        have := HS.out.o1.lo g rfl
        omega
      · rintro g o rfl
        have := HS.out.o2.lo g rfl
        omega

end Go.Proofs.YtiblmojdjnfoaaaGreat

namespace Go.Proofs.YtiblmojdjnfoaaaGreat
open Go.RowKit Fl Lm

theorem TwoL.along {w0 w w' : World} {v : Value} {x y : List Nat} (h : TwoL w0 w v x y) (hb : Below w.heap.size w w') : TwoL w0 w' v x y := by
  obtain ⟨a, c, b, d, e, h1, h2, h3, h4, h5⟩ := h
  exact ⟨a, c, b, d, e, h1.keep hb, h2.keep hb, h3, h4, h5.call hb⟩
theorem TwoL.back {w0 w w' : World} {v : Value} {x y : List Nat} (h : TwoL w w' v x y) (hb : Cl w0 w) : TwoL w0 w' v x y := by
  obtain ⟨a, c, b, d, e, h1, h2, h3, h4, h5⟩ := h
  have hz : w0.heap.size ≤ w.heap.size := hb.size
  exact ⟨a, c, b, d, e, h1, h2, fun g o h => Nat.le_trans hz (h3 g o h), fun g o h => Nat.le_trans hz (h4 g o h), hb.call h5⟩

set_option maxRecDepth 100000 in
set_option maxHeartbeats 1000000 in
theorem parter1_any (T : Nat → Tr) (hT : ∀ i, (T i).Mo) (sur : Bool) (n cb cm cl gs gu : Nat) (ab am ao : Option Addr) (l : List Nat) (w : World) (BS : Lp.Bk w gs #[.slice ab n cb, .slice am n cm] 77) (BU : Lp.Bk w gu #[.bool sur] 4) (hS : Shp T w n ab am) (hL : Sl w ao l.length 1 (lvs l)) (hl : ∀ i, i ∈ l → i < n) (h4 : 4 < l.length) (h5 : l.length ≤ 512) :
    Calls Tryz.prog 72 #[.slice ao l.length cl, .pointer (some ⟨gs, 0, none⟩), .pointer (some ⟨gu, 0, none⟩)] w fun e w' => ∃ v, e = .returned v ∧ TwoL w w' v (partT T sur l).1 (partT T sur l).2 := by
  have HAM : Hid (∀ w', Below w.heap.size w w' → Ret Tryz.prog 73 #[.agg #[.slice ab n cb, .slice am n cm], .slice ao l.length cl] w' (fun v => v = .agg #[.float .f64 (mds T l).a0, .float .f64 (mds T l).a1, .float .f64 (mds T l).a2, .float .f64 (mds T l).a3, .float .f64 (mds T l).a4, .float .f64 (mds T l).a5])) :=
    hid (fun w' hw => amid_any T n cb cm cl ab am ao l w' (hS.keep hw) (hL.keep hw) hl h5)
  have HLO : Hid (∀ w', Ret Tryz.prog 74 #[.agg #[.float .f64 (mds T l).a0, .float .f64 (mds T l).a1, .float .f64 (mds T l).a2, .float .f64 (mds T l).a3, .float .f64 (mds T l).a4, .float .f64 (mds T l).a5]] w' (fun v => v = .int .i64 (axT T l : Int))) := hid (fun w' => longest_any _ _ _ _ _ _ w')
  have HPL : Hid (∀ w', Ret Tryz.prog 51 #[.agg #[.float .f64 (mds T l).a0, .float .f64 (mds T l).a1, .float .f64 (mds T l).a2], .int .i64 (axT T l : Int)] w' (fun v => v = .float .f64 (loT T l))) := hid (fun w' => (gpart_any ⟨(mds T l).a0, (mds T l).a1, (mds T l).a2⟩ (axT T l) w').ret)
  have HPH : Hid (∀ w', Ret Tryz.prog 51 #[.agg #[.float .f64 (mds T l).a3, .float .f64 (mds T l).a4, .float .f64 (mds T l).a5], .int .i64 (axT T l : Int)] w' (fun v => v = .float .f64 (hiT T l))) := hid (fun w' => (gpart_any ⟨(mds T l).a3, (mds T l).a4, (mds T l).a5⟩ (axT T l) w').ret)
  have HSU : Hid (sur = true → (ford (hiT T l) (loT T l) == some .gt) = true → ∀ w' b0 b1 b2 b3, Below w.heap.size w w' → BinFn w' n am (axT T l) (loT T l) (hiT T l) b0 b1 b2 b3 →
      Calls Tryz.prog 75 #[.agg #[.slice ab n cb, .slice am n cm], .slice ao l.length cl, binV b0 b1 b2 b3] w' fun e w'' => ∃ v, e = .returned v ∧ TwoL w' w'' v (partT T sur l).1 (partT T sur l).2) := hid (fun hs ha w' b0 b1 b2 b3 hw hF => by
    subst hs
    rw [(part_sur hT (by omega) h5 ha).1]
    exact bysur_any T hT n cb cm cl b0 b1 b2 b3 ab am ao l w' (hS.keep hw) (hL.keep hw) hl (by omega) h5 ha hF)
  have HME : Hid ((sur = false ∨ (ford (hiT T l) (loT T l) == some .gt) = false) → ∀ w', Below w.heap.size w w' →
      Calls Tryz.prog 77 #[.agg #[.slice ab n cb, .slice am n cm], .slice ao l.length cl, .int .i64 (axT T l : Int)] w' fun e w'' => ∃ v, e = .returned v ∧ TwoL w' w'' v (partT T sur l).1 (partT T sur l).2) := hid (fun hs w' hw => by
    rw [part_med hs, show (medT T l).length = l.length from (med_perm _ l).length_eq]
    exact bymed_any T hT n cb cm cl (axT T l) ab am ao l w' (hS.keep hw) (hL.keep hw) hl (by omega) h5)
  clear hS hL hl h4 h5
  generalize axT T l = k at *
  generalize loT T l = lo at *
  generalize hiT T l = hi at *
  generalize (partT T sur l).1 = X at *
  generalize (partT T sur l).2 = Y at *
  generalize (mds T l).a0 = m0 at *
  generalize (mds T l).a1 = m1 at *
  generalize (mds T l).a2 = m2 at *
  generalize (mds T l).a3 = m3 at *
  generalize (mds T l).a4 = m4 at *
  generalize (mds T l).a5 = m5 at *
  clear hT
  have kS := BS.cell
  go_enter Tryz.func72, Tryz.ntmps72
  go_wp2_with fail
  refine Calls.mono (HAM.out _ (Below.refl _ _)) ?_
  rintro e w1 ⟨v, rfl, rfl, hm⟩
  have HB : Cl w w1 := hm
  clear hm HAM kS
  go_wp2_with fail
  refine Lp.settleC (fun w' => Lp.Bk w' w1.heap.size #[.float .f64 m0, .float .f64 m1, .float .f64 m2, .float .f64 m3, .float .f64 m4, .float .f64 m5] 54 ∧ Cl w w') ⟨Lp.Bk.al _ _ _, HB.alloc _⟩ ?_
  clear HB
  rintro v2 ⟨BM, HB⟩
  have kM := BM.cell
  go_wp2_with fail
  refine Calls.mono (HLO.out _) ?_
  rintro e v3 ⟨v, rfl, rfl, hm⟩
  replace BM := BM.keep hm
  replace HB := HB.call hm
  clear hm HLO kM
  go_wp2_with fail
  apply Lw.region _ _ 10 (by kernel_rfl) (by kernel_rfl) (by kernel_rfl) (Below.refl _ _)
  apply Lw.facts
  · intro w1 hw
    exact (BM.cl hw).cell
  intro HF
  iterate 3 (
    apply Lw.one ?_ rfl
    · intro w hw
      have k0 := HF.out _ hw
      go_simp
      exact rfl
    intro K hK
    go_simp
    refine hK.out _ ?_
    clear hK K)
  apply Lw.any rfl
  · intro w hw
    go_simp
    exact Lw.ret (HPL.out _)
  intro K hK
  rintro v rfl
  go_simp
  refine hK.out _ ?_
  clear hK K
  iterate 3 (
    apply Lw.one ?_ rfl
    · intro w hw
      have k0 := HF.out _ hw
      go_simp
      exact rfl
    intro K hK
    go_simp
    refine hK.out _ ?_
    clear hK K)
  apply Lw.any rfl
  · intro w hw
    go_simp
    exact Lw.ret (HPH.out _)
  intro K hK
  rintro v rfl
  go_simp
  refine hK.out _ ?_
  clear hK K
  iterate 2 (
    apply Lw.one ?_ rfl
    · intro w hw
      have k0 := HF.out _ hw
      go_simp
      exact rfl
    intro K hK
    go_simp
    refine hK.out _ ?_
    clear hK K)
  rotate_left
  exact []
  refine Lw.fin ?_
  intro v4 hm
  replace HB := HB.call hm
  clear hm HF BM HPL HPH
  have kU := (BU.keep HB).cell
  have kS := (BS.keep HB).cell
  by_cases hsu : sur = true
  · by_cases hgt : (ford hi lo == some .gt) = true
    · subst hsu
      have hsu : true = true := rfl
      have hp : (FloatKind.f64.format.order hi lo == some .gt) = true := hgt
      go_wp2_with fail
      apply Lw.region _ _ 12 (by kernel_rfl) (by kernel_rfl) (by kernel_rfl) (Below.refl _ _)
      apply Lw.facts
      · intro w1 hw
        exact (BS.keep (HB.call hw)).cell
      intro HF
      iterate 6 (
        apply Lw.one ?_ rfl
        · intro w hw
          have k0 := HF.out _ hw
          go_simp
          exact rfl
        intro K hK
        go_simp
        refine hK.out _ ?_
        clear hK K)
      apply Lw.anyW (V := fun v w' => ∃ b0 b1 b2 b3, v = binV b0 b1 b2 b3 ∧ BinFn w' n am k lo hi b0 b1 b2 b3) rfl
      · exact fun v x y hb ⟨b0, b1, b2, b3, e, h⟩ => ⟨b0, b1, b2, b3, e, h.keep hb⟩
      · intro w5 hw _
        go_simp
        refine Calls.mono (binner_any n cb cm k lo hi ab am w5) ?_
        rintro e w6 ⟨b0, b1, b2, b3, rfl, hF, hb⟩
        exact ⟨_, rfl, ⟨b0, b1, b2, b3, rfl, hF⟩, hb⟩
      intro K hK v hv
      obtain ⟨_, _, b0, b1, b2, b3, rfl, _⟩ := hv
      unfold binV
      go_simp
      refine hK.out _ _ ?_
      clear hK K
      apply Lw.anyW (V := fun v w' => TwoL v4 w' v X Y) rfl
      · exact fun v x y hb h => h.along hb
      · intro w5 hw hN
        obtain ⟨c0, c1, c2, c3, e, hF⟩ := (hN 6 (by kernel_rfl)).2 rfl
        simp [binV] at e
        obtain ⟨rfl, rfl, rfl, rfl⟩ := e
        go_simp
        refine Calls.mono (HSU.out hsu hgt w5 b0 b1 b2 b3 (HB.call hw) hF) ?_
        rintro e w6 ⟨v, rfl, h⟩
        have h2 := h
        obtain ⟨_, _, _, _, _, _, _, _, _, hcl⟩ := h2
        exact ⟨v, rfl, h.back hw, hcl⟩
      intro K hK v hv
      obtain ⟨_, _, a, c, b, d, rfl, _⟩ := hv
      go_simp
      refine hK.out _ _ ?_
      clear hK K
      iterate 4 (
        apply Lw.one ?_ rfl
        · intro w hw
          go_simp
          exact rfl
        intro K hK
        go_simp
        refine hK.out _ ?_
        clear hK K)
      rotate_left
      exact []
      refine Lw.finE ?_
      intro v5 hm hE
      have hT2 : TwoL v4 v5 (.tuple #[.slice a X.length c, .slice b Y.length d]) X Y := (hE 7).2 rfl
      clear hE hm HF HSU HME
      go_wp2_with fail
      exact bodyPost_ret (v := _) (by simp [results, go_sem]) rfl ⟨_, rfl, hT2.back HB⟩
    · have hgf : (ford hi lo == some .gt) = false := by simpa using hgt
      clear hgt
      subst hsu
      have hp : (FloatKind.f64.format.order hi lo == some .gt) = false := hgf
      go_wp2_with fail
      refine Calls.mono (HME.out (.inr hgf) _ HB) ?_
      rintro e v5 ⟨v, rfl, hT2⟩
      have hT3 := hT2
      obtain ⟨a, c, b, d, rfl, _⟩ := hT3
      clear HME HSU kU kS
      go_wp2_with fail
      exact bodyPost_ret (v := _) (by simp [results, go_sem]) rfl ⟨_, rfl, hT2.back HB⟩
  · have hsf : sur = false := by simpa using hsu
    clear hsu
    subst hsf
    go_wp2_with fail
    refine Calls.mono (HME.out (by simp) _ HB) ?_
    rintro e v5 ⟨v, rfl, hT2⟩
    have hT3 := hT2
    obtain ⟨a, c, b, d, rfl, _⟩ := hT3
    clear HME HSU kU kS
    go_wp2_with fail
    exact bodyPost_ret (v := _) (by simp [results, go_sem]) rfl ⟨_, rfl, hT2.back HB⟩

set_option maxRecDepth 100000 in
set_option maxHeartbeats 1000000 in
theorem parter_any (n cb cm : Nat) (ab am : Option Addr) (sur : Bool) (w : World) : Calls Tryz.prog 52 #[.agg #[.slice ab n cb, .slice am n cm], .bool sur] w fun e w' => e = .returned (.func (.func 72) #[] #[.pointer (some ⟨w.heap.size, 0, none⟩), .pointer (some ⟨w.heap.size + 1, 0, none⟩)]) ∧ w' = (w.alloc (.cells #[.slice ab n cb, .slice am n cm] 77)).alloc (.cells #[.bool sur] 4) := by
  go_enter Tryz.func52, Tryz.ntmps52
  go_wp2_with fail
  go_ret
  exact ⟨rfl, rfl⟩

end Go.Proofs.YtiblmojdjnfoaaaGreat
