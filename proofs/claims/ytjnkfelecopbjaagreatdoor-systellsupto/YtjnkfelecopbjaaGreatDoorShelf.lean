import Derived.Shelf.Strings.LastIndex
import Derived.Shelf.Strings.Split
import Derived.Test.YtjnkfelecopbjaaGreatDoorProg
namespace Go.Proofs
open Tryz
open Go.Shelf
def Tryz.lays149_ren:Go.Shelf.Ren:=⟨fun|149=>180|222=>218|n=>n,fun|9=>9|5=>5|3=>3|4=>4|n=>n,fun|n=>n⟩
theorem Tryz.lays149:Go.Proofs.Lays.n149 prog Tryz.lays149_ren:={
 mixed:=by kernel_rfl
 f149:=func180.trans (congrArg some (by kernel_rfl))
 f222:=func218.trans (congrArg some (by kernel_rfl))
 t3:=underlying3
 a3:=isAgg3
 z3:=sizeOf3
 v3:=zeroValue3
 t4:=underlying4
 a4:=isAgg4
 z4:=sizeOf4
 v4:=zeroValue4
 t5:=underlying5
 a5:=isAgg5
 z5:=sizeOf5
 v5:=zeroValue5
 t9:=underlying9
 a9:=isAgg9
 z9:=sizeOf9
 v9:=zeroValue9 }
open Go.RowKit Go.Lib in
theorem Tryz.strings_LastIndexByte (s:ByteArray) (c:Int) (hs:s.size < 4611686018427387904) (w:World) :
 Calls prog 180 #[.string s,.int .u8 c] w fun e w'=>e = .returned (.int .i64 (Lib.lastIndexByte s c)) ∧ w' = w:=Any.strings_LastIndexByte Tryz.lays149 s c hs w
def Tryz.lays146_ren:Go.Shelf.Ren:=⟨fun|146=>160|221=>210|268=>232|138=>233|143=>234|195=>250|197=>251|218=>252|219=>253|260=>260|217=>261|225=>262|224=>263|267=>264|266=>266|314=>267|n=>n,fun|9=>9|31=>36|3=>3|4=>4|0=>0|105=>271|21=>21|5=>5|46=>194|119=>280|139=>283|138=>282|146=>262|51=>227|n=>n,fun|1=>0|3=>1|4=>2|n=>n⟩
theorem Tryz.lays146:Go.Proofs.Lays.n146 prog Tryz.lays146_ren:={
 mixed:=by kernel_rfl
 f138:=func233.trans (congrArg some (by kernel_rfl))
 f143:=func234.trans (congrArg some (by kernel_rfl))
 f146:=func160.trans (congrArg some (by kernel_rfl))
 f195:=func250.trans (congrArg some (by kernel_rfl))
 f197:=func251.trans (congrArg some (by kernel_rfl))
 f217:=func261.trans (congrArg some (by kernel_rfl))
 f218:=func252.trans (congrArg some (by kernel_rfl))
 f219:=func253.trans (congrArg some (by kernel_rfl))
 f221:=func210.trans (congrArg some (by kernel_rfl))
 f224:=func263.trans (congrArg some (by kernel_rfl))
 f225:=func262.trans (congrArg some (by kernel_rfl))
 f260:=func260.trans (congrArg some (by kernel_rfl))
 f266:=func266.trans (congrArg some (by kernel_rfl))
 f267:=func264.trans (congrArg some (by kernel_rfl))
 f268:=func232.trans (congrArg some (by kernel_rfl))
 f314:=func267.trans (congrArg some (by kernel_rfl))
 t0:=underlying0
 a0:=isAgg0
 z0:=sizeOf0
 v0:=zeroValue0
 t3:=underlying3
 a3:=isAgg3
 z3:=sizeOf3
 v3:=zeroValue3
 t4:=underlying4
 a4:=isAgg4
 z4:=sizeOf4
 v4:=zeroValue4
 t5:=underlying5
 a5:=isAgg5
 z5:=sizeOf5
 v5:=zeroValue5
 t9:=underlying9
 a9:=isAgg9
 z9:=sizeOf9
 v9:=zeroValue9
 t21:=underlying21
 a21:=isAgg21
 z21:=sizeOf21
 v21:=zeroValue21
 t31:=underlying36
 a31:=isAgg36
 z31:=sizeOf36
 v31:=zeroValue36
 t46:=underlying194
 a46:=isAgg194
 z46:=sizeOf194
 v46:=zeroValue194
 t51:=underlying227
 a51:=isAgg227
 z51:=sizeOf227
 v51:=zeroValue227
 t105:=underlying271
 a105:=isAgg271
 z105:=sizeOf271
 v105:=zeroValue271
 t119:=underlying280
 a119:=isAgg280
 z119:=sizeOf280
 t138:=underlying282
 a138:=isAgg282
 z138:=sizeOf282
 v138:=zeroValue282
 t139:=underlying283
 a139:=isAgg283
 z139:=sizeOf283
 v139:=zeroValue283
 t146:=underlying262
 a146:=isAgg262
 z146:=sizeOf262
 v146:=zeroValue262
 g1:=by kernel_rfl
 g3:=by kernel_rfl
 g4:=by kernel_rfl }
open Go.RowKit Go.Lib in
theorem Tryz.strings_Split (s sep:ByteArray) (m:Int) (w:World) (hs:s.size < 4294967281) (hm:w.cell? ⟨0,0,none⟩ = some (.int .i64 m)) (h1:1 ≤ sep.size) :
 Calls prog 160 #[.string s,.string sep] w fun e w' =>
 e = .returned (.slice (some ⟨w.heap.size,0,none⟩) (Lib.countB s sep + 1) (Lib.countB s sep + 1)) ∧ w' = w.alloc (.cells ((Lib.splitB sep 0 (Lib.countB s sep) s).map Value.string).toArray 9):=Any.strings_Split Tryz.lays146 (by kernel_rfl) s sep m w hs hm h1
