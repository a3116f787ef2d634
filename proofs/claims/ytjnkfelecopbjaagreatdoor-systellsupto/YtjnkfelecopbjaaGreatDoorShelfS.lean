import Derived.Shelf.Strings.Prefix
import Derived.Shelf.Strings.Repeat
import Derived.Test.YtjnkfelecopbjaaGreatDoorProg
namespace Go.Proofs
open Tryz
open Go.Shelf
def Tryz.lays99_ren:Go.Shelf.Ren:=⟨fun|99=>212|206=>235|n=>n,fun|9=>9|4=>4|3=>3|n=>n,fun|n=>n⟩
theorem Tryz.lays99:Go.Proofs.Lays.n99 prog Tryz.lays99_ren:={
 mixed:=by kernel_rfl
 f99:=func212.trans (congrArg some (by kernel_rfl))
 f206:=func235.trans (congrArg some (by kernel_rfl))
 t3:=underlying3
 a3:=isAgg3
 z3:=sizeOf3
 v3:=zeroValue3
 t4:=underlying4
 a4:=isAgg4
 z4:=sizeOf4
 v4:=zeroValue4
 t9:=underlying9
 a9:=isAgg9
 z9:=sizeOf9
 v9:=zeroValue9 }
open Go.RowKit Go.Lib in
theorem Tryz.strings_HasPrefix (s p:ByteArray) (w:World) :
 Calls prog 212 #[.string s,.string p] w fun e w'=>e = .returned (.bool (Lib.hasPrefix s.data.toList p.data.toList)) ∧ w' = w:=Any.strings_HasPrefix Tryz.lays99 s p w
def Tryz.lays105_ren:Go.Shelf.Ren:=⟨fun|105=>193|212=>222|99=>212|165=>223|166=>224|170=>225|169=>226|263=>245|264=>246|206=>235|240=>247|241=>248|276=>258|277=>259|n=>n,fun|9=>9|3=>3|4=>4|20=>20|0=>0|46=>194|109=>238|5=>5|72=>242|76=>246|51=>227|146=>262|53=>229|148=>264|70=>240|37=>120|75=>245|127=>266|164=>276|80=>249|n=>n,fun|n=>n⟩
theorem Tryz.lays105:Go.Proofs.Lays.n105 prog Tryz.lays105_ren:={
 mixed:=by kernel_rfl
 f99:=func212.trans (congrArg some (by kernel_rfl))
 f105:=func193.trans (congrArg some (by kernel_rfl))
 f165:=func223.trans (congrArg some (by kernel_rfl))
 f166:=func224.trans (congrArg some (by kernel_rfl))
 f169:=func226.trans (congrArg some (by kernel_rfl))
 f170:=func225.trans (congrArg some (by kernel_rfl))
 f206:=func235.trans (congrArg some (by kernel_rfl))
 f212:=func222.trans (congrArg some (by kernel_rfl))
 f240:=func247.trans (congrArg some (by kernel_rfl))
 f241:=func248.trans (congrArg some (by kernel_rfl))
 f263:=func245.trans (congrArg some (by kernel_rfl))
 f264:=func246.trans (congrArg some (by kernel_rfl))
 f276:=func258.trans (congrArg some (by kernel_rfl))
 f277:=func259.trans (congrArg some (by kernel_rfl))
 t0:=underlying0
 a0:=isAgg0
 z0:=sizeOf0
 v0:=zeroValue0
 t3:=underlying3
 a3:=isAgg3
 z3:=sizeOf3
 v3:=zeroValue3
 t4:=underlying4
 a4:=isAgg4
 z4:=sizeOf4
 v4:=zeroValue4
 t5:=underlying5
 a5:=isAgg5
 z5:=sizeOf5
 v5:=zeroValue5
 t9:=underlying9
 a9:=isAgg9
 z9:=sizeOf9
 v9:=zeroValue9
 t20:=underlying20
 a20:=isAgg20
 z20:=sizeOf20
 v20:=zeroValue20
 t37:=underlying120
 a37:=isAgg120
 z37:=sizeOf120
 v37:=zeroValue120
 t46:=underlying194
 a46:=isAgg194
 z46:=sizeOf194
 v46:=zeroValue194
 t51:=underlying227
 a51:=isAgg227
 z51:=sizeOf227
 v51:=zeroValue227
 t53:=underlying229
 a53:=isAgg229
 z53:=sizeOf229
 v53:=zeroValue229
 t70:=underlying240
 a70:=isAgg240
 z70:=sizeOf240
 v70:=zeroValue240
 t72:=underlying242
 a72:=isAgg242
 z72:=sizeOf242
 v72:=zeroValue242
 t75:=underlying245
 a75:=isAgg245
 z75:=sizeOf245
 v75:=zeroValue245
 t76:=underlying246
 a76:=isAgg246
 z76:=sizeOf246
 v76:=zeroValue246
 t109:=underlying238
 a109:=isAgg238
 z109:=sizeOf238
 v109:=zeroValue238
 t127:=underlying266
 a127:=isAgg266
 z127:=sizeOf266
 v127:=zeroValue266
 t146:=underlying262
 a146:=isAgg262
 z146:=sizeOf262
 v146:=zeroValue262
 t148:=underlying264
 a148:=isAgg264
 z148:=sizeOf264
 v148:=zeroValue264
 t164:=underlying276
 a164:=isAgg276
 z164:=sizeOf276
 v164:=zeroValue276 }
theorem Tryz.Builder_Extra_105:Builder.Extra prog Tryz.lays105_ren:={
 sizeBuilder:=by kernel_rfl
 liesBuilder:=by kernel_rfl
 t5:=underlying5
 a5:=isAgg5
 z5:=sizeOf5
 v5:=zeroValue5
 infoByte:=by kernel_rfl
 cellsByte:=by kernel_rfl
 sizeByte:=by kernel_rfl
 neB5:=by decide }
open Go.RowKit Go.Lib in
theorem Tryz.strings_Repeat (s:ByteArray) (c:Nat) (w:World) (hc:c ≤ 9223372036854775807) (hlen:s.size * c ≤ 140737488355328) :
 Calls prog 193 #[.string s,.int .i64 c] w fun e w'=>e = .returned (.string ⟨(Lib.repeatL s.data.toList c).toArray⟩) ∧ Below w.heap.size w w':=Any.strings_Repeat Tryz.lays105 Tryz.Builder_Extra_105 s c w hc hlen
