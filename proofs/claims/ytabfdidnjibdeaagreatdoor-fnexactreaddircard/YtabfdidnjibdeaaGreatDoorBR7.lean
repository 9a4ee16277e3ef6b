/- Laid together: Shelf, EntI, TrI3, TrI4. -/
import Derived.Shelf.Strings.Search1
import Derived.Shelf.Strings.Search2
import Derived.Shelf.Strings.Search3
import Derived.Shelf.Strings.Count
import Derived.Shelf.LaysM
import Derived.Shelf.Strings.Shaped
import Derived.Shelf.Strings.Prefix
import Derived.Shelf.Strings.Split
import Derived.Shelf.Strings.SplitShaped
import Derived.Shelf.Unicode.DecodeSlow
import Derived.Ground.SlgnProg
import Derived.Shelf.SlicesE.Index
import Derived.Test.YtabfdidnjibdeaaGreatDoorProg
import Derived.Lib.IndexLaws
import Derived.Test.YtabfdidnjibdeaaGreatDoorBR6
/-
  DERIVED: THE SHELF's CONTRACTS AT THIS DUMP,IN PLAIN WORDS (tools/lay-plain.mjs out of 'TryzShelf.lean',which tools/lay-shelf.mjs wrote): THE SAME DECLARATIONS UNDER THE SAME NAMES: 'import','namespace','open','def','theorem' AND NOTHING ELSE: no command of the shelf's: FOR A HAND-IN. Each laying: the table of numbers ('.._ren') and one theorem,a field a fact of the dump's own or the kernel's comparison;each contract: ONE APPLICATION.
-/
namespace Go.Proofs
open Go.Shelf
def Tryz.lays144_ren:Go.Shelf.Ren:=⟨fun | 144=>232 | 143=>216 | 219=>236 | 217=>243 | 225=>244 | 224=>245 | 267=>246 | 266=>248 | 314=>249 | n=>n,fun | 9=>9 | 4=>4 | 3=>3 | 5=>5 | 46=>148 | 146=>287 | 51=>286 | n=>n,fun | 1=>4 | n=>n⟩
theorem Tryz.lays144:Go.Proofs.Lays.n144 Tryz.prog Tryz.lays144_ren:={
  mixed:=by kernel_rfl
  f143:=Tryz.func216.trans (congrArg some (by kernel_rfl))
  f144:=Tryz.func232.trans (congrArg some (by kernel_rfl))
  f217:=Tryz.func243.trans (congrArg some (by kernel_rfl))
  f219:=Tryz.func236.trans (congrArg some (by kernel_rfl))
  f224:=Tryz.func245.trans (congrArg some (by kernel_rfl))
  f225:=Tryz.func244.trans (congrArg some (by kernel_rfl))
  f266:=Tryz.func248.trans (congrArg some (by kernel_rfl))
  f267:=Tryz.func246.trans (congrArg some (by kernel_rfl))
  f314:=Tryz.func249.trans (congrArg some (by kernel_rfl))
  t3:=Tryz.underlying3
  a3:=Tryz.isAgg3
  z3:=Tryz.sizeOf3
  v3:=Tryz.zeroValue3
  t4:=Tryz.underlying4
  a4:=Tryz.isAgg4
  z4:=Tryz.sizeOf4
  v4:=Tryz.zeroValue4
  t5:=Tryz.underlying5
  a5:=Tryz.isAgg5
  z5:=Tryz.sizeOf5
  v5:=Tryz.zeroValue5
  t9:=Tryz.underlying9
  a9:=Tryz.isAgg9
  z9:=Tryz.sizeOf9
  v9:=Tryz.zeroValue9
  t46:=Tryz.underlying148
  a46:=Tryz.isAgg148
  z46:=Tryz.sizeOf148
  v46:=Tryz.zeroValue148
  t51:=Tryz.underlying286
  a51:=Tryz.isAgg286
  z51:=Tryz.sizeOf286
  v51:=Tryz.zeroValue286
  t146:=Tryz.underlying287
  a146:=Tryz.isAgg287
  z146:=Tryz.sizeOf287
  v146:=Tryz.zeroValue287
  g1:=by kernel_rfl }
open Go.RowKit Go.Lib in
theorem Tryz.strings_Contains_one (s:ByteArray)(c:UInt8)(w:World) :
    Calls Tryz.prog 232 #[.string s,.string ⟨#[c]⟩] w fun e w'=>e=.returned (.bool (decide (0≤Lib.indexByte s.data.toList c)))∧w'=w:=Any.strings_Contains_one Tryz.lays144 s c w
def Tryz.lays99_ren:Go.Shelf.Ren:=⟨fun | 99=>76 | 206=>123 | n=>n,fun | 9=>9 | 4=>4 | 3=>3 | n=>n,fun | n=>n⟩
theorem Tryz.lays99:Go.Proofs.Lays.n99 Tryz.prog Tryz.lays99_ren:={
  mixed:=by kernel_rfl
  f99:=Tryz.func76.trans (congrArg some (by kernel_rfl))
  f206:=Tryz.func123.trans (congrArg some (by kernel_rfl))
  t3:=Tryz.underlying3
  a3:=Tryz.isAgg3
  z3:=Tryz.sizeOf3
  v3:=Tryz.zeroValue3
  t4:=Tryz.underlying4
  a4:=Tryz.isAgg4
  z4:=Tryz.sizeOf4
  v4:=Tryz.zeroValue4
  t9:=Tryz.underlying9
  a9:=Tryz.isAgg9
  z9:=Tryz.sizeOf9
  v9:=Tryz.zeroValue9 }
open Go.RowKit Go.Lib in
theorem Tryz.strings_HasPrefix (s p:ByteArray)(w:World) :
    Calls Tryz.prog 76 #[.string s,.string p] w fun e w'=>e=.returned (.bool (Lib.hasPrefix s.data.toList p.data.toList))∧w'=w:=Any.strings_HasPrefix Tryz.lays99 s p w
def Tryz.lays100_ren:Go.Shelf.Ren:=⟨fun | 100=>80 | 207=>126 | n=>n,fun | 9=>9 | 4=>4 | 3=>3 | n=>n,fun | n=>n⟩
theorem Tryz.lays100:Go.Proofs.Lays.n100 Tryz.prog Tryz.lays100_ren:={
  mixed:=by kernel_rfl
  f100:=Tryz.func80.trans (congrArg some (by kernel_rfl))
  f207:=Tryz.func126.trans (congrArg some (by kernel_rfl))
  t3:=Tryz.underlying3
  a3:=Tryz.isAgg3
  z3:=Tryz.sizeOf3
  v3:=Tryz.zeroValue3
  t4:=Tryz.underlying4
  a4:=Tryz.isAgg4
  z4:=Tryz.sizeOf4
  v4:=Tryz.zeroValue4
  t9:=Tryz.underlying9
  a9:=Tryz.isAgg9
  z9:=Tryz.sizeOf9
  v9:=Tryz.zeroValue9 }
open Go.RowKit Go.Lib in
theorem Tryz.strings_HasSuffix (s p:ByteArray)(w:World)(hs:s.size≤9223372036854775807) :
    Calls Tryz.prog 80 #[.string s,.string p] w fun e w'=>e=.returned (.bool (Lib.hasSuffix s.data.toList p.data.toList))∧w'=w:=Any.strings_HasSuffix Tryz.lays100 s p w hs
def Tryz.lays146_ren:Go.Shelf.Ren:=⟨fun | 146=>124 | 221=>169 | 268=>214 | 138=>215 | 143=>216 | 195=>233 | 197=>234 | 218=>235 | 219=>236 | 260=>242 | 217=>243 | 225=>244 | 224=>245 | 267=>246 | 266=>248 | 314=>249 | n=>n,fun | 9=>9 | 31=>50 | 3=>3 | 4=>4 | 0=>0 | 105=>271 | 21=>21 | 5=>5 | 46=>148 | 119=>282 | 139=>285 | 138=>284 | 146=>287 | 51=>286 | n=>n,fun | 1=>4 | 3=>5 | 4=>6 | n=>n⟩
theorem Tryz.lays146:Go.Proofs.Lays.n146 Tryz.prog Tryz.lays146_ren:={
  mixed:=by kernel_rfl
  f138:=Tryz.func215.trans (congrArg some (by kernel_rfl))
  f143:=Tryz.func216.trans (congrArg some (by kernel_rfl))
  f146:=Tryz.func124.trans (congrArg some (by kernel_rfl))
  f195:=Tryz.func233.trans (congrArg some (by kernel_rfl))
  f197:=Tryz.func234.trans (congrArg some (by kernel_rfl))
  f217:=Tryz.func243.trans (congrArg some (by kernel_rfl))
  f218:=Tryz.func235.trans (congrArg some (by kernel_rfl))
  f219:=Tryz.func236.trans (congrArg some (by kernel_rfl))
  f221:=Tryz.func169.trans (congrArg some (by kernel_rfl))
  f224:=Tryz.func245.trans (congrArg some (by kernel_rfl))
  f225:=Tryz.func244.trans (congrArg some (by kernel_rfl))
  f260:=Tryz.func242.trans (congrArg some (by kernel_rfl))
  f266:=Tryz.func248.trans (congrArg some (by kernel_rfl))
  f267:=Tryz.func246.trans (congrArg some (by kernel_rfl))
  f268:=Tryz.func214.trans (congrArg some (by kernel_rfl))
  f314:=Tryz.func249.trans (congrArg some (by kernel_rfl))
  t0:=Tryz.underlying0
  a0:=Tryz.isAgg0
  z0:=Tryz.sizeOf0
  v0:=Tryz.zeroValue0
  t3:=Tryz.underlying3
  a3:=Tryz.isAgg3
  z3:=Tryz.sizeOf3
  v3:=Tryz.zeroValue3
  t4:=Tryz.underlying4
  a4:=Tryz.isAgg4
  z4:=Tryz.sizeOf4
  v4:=Tryz.zeroValue4
  t5:=Tryz.underlying5
  a5:=Tryz.isAgg5
  z5:=Tryz.sizeOf5
  v5:=Tryz.zeroValue5
  t9:=Tryz.underlying9
  a9:=Tryz.isAgg9
  z9:=Tryz.sizeOf9
  v9:=Tryz.zeroValue9
  t21:=Tryz.underlying21
  a21:=Tryz.isAgg21
  z21:=Tryz.sizeOf21
  v21:=Tryz.zeroValue21
  t31:=Tryz.underlying50
  a31:=Tryz.isAgg50
  z31:=Tryz.sizeOf50
  v31:=Tryz.zeroValue50
  t46:=Tryz.underlying148
  a46:=Tryz.isAgg148
  z46:=Tryz.sizeOf148
  v46:=Tryz.zeroValue148
  t51:=Tryz.underlying286
  a51:=Tryz.isAgg286
  z51:=Tryz.sizeOf286
  v51:=Tryz.zeroValue286
  t105:=Tryz.underlying271
  a105:=Tryz.isAgg271
  z105:=Tryz.sizeOf271
  v105:=Tryz.zeroValue271
  t119:=Tryz.underlying282
  a119:=Tryz.isAgg282
  z119:=Tryz.sizeOf282
  t138:=Tryz.underlying284
  a138:=Tryz.isAgg284
  z138:=Tryz.sizeOf284
  v138:=Tryz.zeroValue284
  t139:=Tryz.underlying285
  a139:=Tryz.isAgg285
  z139:=Tryz.sizeOf285
  v139:=Tryz.zeroValue285
  t146:=Tryz.underlying287
  a146:=Tryz.isAgg287
  z146:=Tryz.sizeOf287
  v146:=Tryz.zeroValue287
  g1:=by kernel_rfl
  g3:=by kernel_rfl
  g4:=by kernel_rfl }
open Go.RowKit Go.Lib in
theorem Tryz.strings_Split (s sep:ByteArray)(m:Int)(w:World)(hs:s.size<4294967281)(hm:w.cell? ⟨4,0,none⟩=some (.int .i64 m))(h1:1≤sep.size) :
    Calls Tryz.prog 124 #[.string s,.string sep] w fun e w' =>
      e=.returned (.slice (some ⟨w.heap.size,0,none⟩) (Lib.countB s sep+1) (Lib.countB s sep+1))∧w'=w.alloc (.cells ((Lib.splitB sep 0 (Lib.countB s sep) s).map Value.string).toArray 9):=Any.strings_Split Tryz.lays146 (by kernel_rfl) s sep m w hs hm h1
def Tryz.laysM146_ren:Go.Shelf.Ren:=⟨fun | 146=>124 | 221=>169 | 268=>214 | 138=>215 | 143=>216 | 195=>233 | 197=>234 | 218=>235 | 219=>236 | 260=>242 | 217=>243 | 225=>244 | 224=>245 | 267=>246 | 266=>248 | 314=>249 | n=>n,fun | 9=>9 | 31=>50 | 3=>3 | 4=>4 | 0=>0 | 105=>271 | 21=>21 | 5=>5 | 46=>148 | 119=>282 | 139=>285 | 138=>284 | 146=>287 | 51=>286 | n=>n,fun | 1=>4 | 3=>5 | 4=>6 | n=>n⟩
theorem Tryz.laysM146:Go.Proofs.LaysM.n146 Tryz.prog Tryz.laysM146_ren:={
  mixed:=by kernel_rfl
  f138:=Tryz.func215.trans (congrArg some (by kernel_rfl))
  f143:=Tryz.func216.trans (congrArg some (by kernel_rfl))
  f146:=Tryz.func124.trans (congrArg some (by kernel_rfl))
  f195:=Tryz.func233.trans (congrArg some (by kernel_rfl))
  f197:=Tryz.func234.trans (congrArg some (by kernel_rfl))
  f217:=Tryz.func243.trans (congrArg some (by kernel_rfl))
  f218:=Tryz.func235.trans (congrArg some (by kernel_rfl))
  f219:=Tryz.func236.trans (congrArg some (by kernel_rfl))
  f221:=Tryz.func169.trans (congrArg some (by kernel_rfl))
  f224:=Tryz.func245.trans (congrArg some (by kernel_rfl))
  f225:=Tryz.func244.trans (congrArg some (by kernel_rfl))
  f260:=Tryz.func242.trans (congrArg some (by kernel_rfl))
  f266:=Tryz.func248.trans (congrArg some (by kernel_rfl))
  f267:=Tryz.func246.trans (congrArg some (by kernel_rfl))
  f268:=Tryz.func214.trans (congrArg some (by kernel_rfl))
  f314:=Tryz.func249.trans (congrArg some (by kernel_rfl))
  t0:=Tryz.underlying0
  a0:=Tryz.isAgg0
  z0:=Tryz.sizeOf0
  v0:=Tryz.zeroValue0
  t3:=Tryz.underlying3
  a3:=Tryz.isAgg3
  z3:=Tryz.sizeOf3
  v3:=Tryz.zeroValue3
  t4:=Tryz.underlying4
  a4:=Tryz.isAgg4
  z4:=Tryz.sizeOf4
  v4:=Tryz.zeroValue4
  t5:=Tryz.underlying5
  a5:=Tryz.isAgg5
  z5:=Tryz.sizeOf5
  v5:=Tryz.zeroValue5
  t9:=Tryz.underlying9
  a9:=Tryz.isAgg9
  z9:=Tryz.sizeOf9
  v9:=Tryz.zeroValue9
  t21:=Tryz.underlying21
  a21:=Tryz.isAgg21
  z21:=Tryz.sizeOf21
  v21:=Tryz.zeroValue21
  t31:=Tryz.underlying50
  a31:=Tryz.isAgg50
  z31:=Tryz.sizeOf50
  v31:=Tryz.zeroValue50
  t46:=Tryz.underlying148
  a46:=Tryz.isAgg148
  z46:=Tryz.sizeOf148
  v46:=Tryz.zeroValue148
  t51:=Tryz.underlying286
  a51:=Tryz.isAgg286
  z51:=Tryz.sizeOf286
  v51:=Tryz.zeroValue286
  t105:=Tryz.underlying271
  a105:=Tryz.isAgg271
  z105:=Tryz.sizeOf271
  v105:=Tryz.zeroValue271
  t119:=Tryz.underlying282
  a119:=Tryz.isAgg282
  z119:=Tryz.sizeOf282
  t138:=Tryz.underlying284
  a138:=Tryz.isAgg284
  z138:=Tryz.sizeOf284
  v138:=Tryz.zeroValue284
  t139:=Tryz.underlying285
  a139:=Tryz.isAgg285
  z139:=Tryz.sizeOf285
  v139:=Tryz.zeroValue285
  t146:=Tryz.underlying287
  a146:=Tryz.isAgg287
  z146:=Tryz.sizeOf287
  v146:=Tryz.zeroValue287
  g1:=by kernel_rfl
  g3:=by kernel_rfl
  g4:=by kernel_rfl
  i0:=by kernel_rfl
  i3:=by kernel_rfl
  i4:=by kernel_rfl
  i5:=by kernel_rfl
  i9:=by kernel_rfl
  i21:=by kernel_rfl
  i31:=by kernel_rfl
  i46:=by kernel_rfl
  i51:=by kernel_rfl
  i105:=by kernel_rfl
  i138:=by kernel_rfl
  i139:=by kernel_rfl
  i146:=by kernel_rfl
  m1:=by kernel_rfl
  s1_3:=fun w h=>Go.Proofs.cell_of_shapedOpen_int (zero:=#[.int .i64 0]) (t:=3) h (of_decide_eq_true (by kernel_rfl)) (by kernel_rfl) rfl (by kernel_rfl) (by kernel_rfl) Tryz.underlying3
  m3:=by kernel_rfl
  m4:=by kernel_rfl }
end Go.Proofs
namespace Go.Proofs.YtabfdidnjibdeaaGreatDoor
open Go.RowKit Go.PlainAid
set_option linter.unusedVariables false
theorem bt_is {s:ByteArray}{k:Nat}(h:k<s.size):bt s k=((s.data[k]'(by simpa using h)).toNat:Int):=by
  have h1:=get_bt s
  first
    | (simp [bt,h];done)
    | (unfold bt;simp [h];rfl)
theorem nsTo_all {s:ByteArray}:∀ {n:Nat},n≤s.size→(∀ k,k<n→¬ bt s k=47)→nsTo s n=true
  | 0,_,_=>rfl
  | n+1,h,hk=>nsTo_next (nsTo_all (by omega) (fun k hk2=>hk k (by omega))) (hk n (by omega))
theorem slash_is (s:ByteArray):decide (0≤Lib.indexByte s.data.toList 47)=!nsTo s s.size:=by
  cases h:nsTo s s.size
  · rw [← Lib.contains_iff_indexByte]
    cases hc:s.data.toList.contains 47
    · exfalso
      have:nsTo s s.size=true:=nsTo_all (Nat.le_refl _) (fun k hk e=>by
        rw [bt_is hk] at e
        have h47:s.data[k]'(by simpa using hk)=47:=by
          apply UInt8.toNat_inj.1
          show _=47
          omega
        have hm:(47:UInt8) ∈ s.data.toList:=by
          rw [←h47]
          simp
        simp at hc
        exact hc (by simpa using hm))
      rw [this] at h
      cases h
    · rfl
  · rw [← Lib.contains_iff_indexByte]
    cases hc:s.data.toList.contains 47
    · rfl
    · exfalso
      have hm:(47:UInt8) ∈ s.data.toList:=by simpa using hc
      obtain ⟨k,hk,e⟩:=List.getElem_of_mem hm
      have hk2:k<s.size:=by simpa using hk
      have:nsTo s s.size=false:=nsTo_false hk2 (by
        rw [bt_is hk2]
        have e2:s.data[k]'(by simpa using hk2)=47:=by simpa using e
        rw [e2]
        rfl)
      rw [this] at h
      cases h
set_option maxHeartbeats 1000000 in
theorem iEntry_any (s:ByteArray)(hs:s.size≤maxLen)(w:World) :
    Calls Tryz.prog 212 #[.string s] w fun e w'=>e=.returned (.bool (entB s))∧w'=w:=by
  have hc:Hid (∀ w,Calls Tryz.prog 75 #[.string s,.int .i64 12] w fun e w'=>e=.returned (.bool (signsB s 12))∧w'=w):=(fun w=>iSigns_any s 12 (by omega) hs w)
  have hd:Hid (∀ w,Calls Tryz.prog 232 #[.string s,.string ⟨#[47]⟩] w fun e w'=>e=.returned (.bool (!nsTo s s.size))∧w'=w):=(fun w=>by
    have h:=Tryz.strings_Contains_one s 47 w
    rwa [slash_is] at h)
  have hz:s.size≤9223372036854775807:=hs
  cases h0:signsB s 12
  · have hno : Hid (entB s = false) := ent_signs h0
    rw [h0] at hc
    go_enter Tryz.func212,Tryz.ntmps212
    go_wp2_with (go_at_call 75;refine (hc.out _).mono ?_;rintro e w' ⟨rfl,rfl⟩)
    go_ret
    exact ⟨ret_boolS hno.out.symm,rfl⟩
  cases h3:nsTo s s.size
  · have hno : Hid (entB s = false) := ent_slash h3
    rw [h0] at hc
    rw [h3] at hd
    go_enter Tryz.func212,Tryz.ntmps212
    go_wp2_with (first | (go_at_call 75;refine (hc.out _).mono ?_;rintro e w' ⟨rfl,rfl⟩) | (go_at_call 232;refine (hd.out _).mono ?_;rintro e w' ⟨rfl,rfl⟩))
    go_ret
    exact ⟨ret_boolS hno.out.symm,rfl⟩
  cases h1:(s.toList==[46])
  · have g1 : (s.toList != [46]) = true := (strs_of h1).2
    cases h2:(s.toList==[46,46])
    · have g2 : (s.toList != [46, 46]) = true := (strs_of h2).2
      have hyes:Hid (entB s=true):=ent_yes h0 h1 h2 h3
      rw [h0] at hc
      rw [h3] at hd
      go_enter Tryz.func212,Tryz.ntmps212
      go_wp2_with (first | (go_at_call 75;refine (hc.out _).mono ?_;rintro e w' ⟨rfl,rfl⟩) | (go_at_call 232;refine (hd.out _).mono ?_;rintro e w' ⟨rfl,rfl⟩))
      go_ret
      exact ⟨ret_boolS (by rw [hyes.out]),rfl⟩
    · have g2 : (s.toList != [46, 46]) = false := (strs_of h2).2
      have hno:Hid (entB s=false):=ent_dots h2
      rw [h0] at hc
      rw [h3] at hd
      go_enter Tryz.func212,Tryz.ntmps212
      go_wp2_with (first | (go_at_call 75;refine (hc.out _).mono ?_;rintro e w' ⟨rfl,rfl⟩) | (go_at_call 232;refine (hd.out _).mono ?_;rintro e w' ⟨rfl,rfl⟩))
      go_ret
      exact ⟨ret_boolS (by rw [hno.out]),rfl⟩
  · have g1 : (s.toList != [46]) = false := (strs_of h1).2
    have hno:Hid (entB s=false):=ent_dot h1
    rw [h0] at hc
    rw [h3] at hd
    go_enter Tryz.func212,Tryz.ntmps212
    go_wp2_with (first | (go_at_call 75;refine (hc.out _).mono ?_;rintro e w' ⟨rfl,rfl⟩) | (go_at_call 232;refine (hd.out _).mono ?_;rintro e w' ⟨rfl,rfl⟩))
    go_ret
    exact ⟨ret_boolS (by rw [hno.out]),rfl⟩
end Go.Proofs.YtabfdidnjibdeaaGreatDoor
namespace Go.Proofs.YtabfdidnjibdeaaGreatDoor
open Go.RowKit Go.PlainAid Go.Deep
set_option linter.unusedVariables false
theorem less_tot:∀ a b:List UInt8,(Op.bytesLess a b||a==b)=!Op.bytesLess b a
  | [],[]=>rfl
  | [],_ :: _=>rfl
  | _ :: _,[]=>rfl
  | a :: x,b :: y=>by
    have ih:=less_tot x y
    simp only [Op.bytesLess]
    by_cases h1:a<b
    · have h2 : ¬ b < a := UInt8.lt_asymm h1
      have h3:¬ b=a:=fun e=>by subst e;exact UInt8.lt_irrefl _ h1
      simp [h1,h2,h3]
    · by_cases h2 : b < a
      · have h3 : ¬ a = b := fun e => by subst e; exact UInt8.lt_irrefl _ h2
        simp [h1,h2,h3]
      · have h3:a=b:=by
          apply UInt8.toNat_inj.1
          rw [UInt8.lt_iff_toNat_lt] at h1 h2
          omega
        subst h3
        simp [h1]
        simpa using ih
theorem binOp_leqS (t:TypeId)(a b:ByteArray):binOp .leq t (.string a) (.string b)=pure (.bool !(Op.bytesLess b.toList a.toList)):=by
  rw [←less_tot]
  simp [binOp,Op.stringOp]
attribute [local go_sem high] binOp_leqS
set_option maxRecDepth 20000 in
set_option maxHeartbeats 16000000 in
theorem iNames_any (a:Option Addr)(len cap:Nat)(l:List Nd)(now:Int)(nA:Option Addr)(nC:Nat)(ns:List (ByteArray × Int))(hl:len≤1048576)(hnl:ns.length≤1048576)(hnm:∀ i,i<ns.length→(nmAt ns i).size≤1048576)(w:World)(hi:Nds a len l w)(hn:Ens nA ns.length ns w) :
    Calls Tryz.prog 167 #[.agg #[.slice a len cap,.int .i64 now],.slice nA ns.length nC] w fun e w'=>e=.returned (.bool (nsB l ns))∧Below w.heap.size w w':=by
  have HI:Hid (Nds a len l w):=hi
  have HN:Hid (Ens nA ns.length ns w):=hn
  have HM:Hid (∀ i,i<ns.length→(nmAt ns i).size≤1048576):=hnm
  clear hi hn hnm
  by_cases h6:6<ns.length
  · have hno : Hid (nsB l ns = false) := nsB_long h6
    have h6':(6:Int)<(ns.length:Int):=by omega
    have HB:Hid (Below w.heap.size w (w.alloc (.cells #[.slice a len cap,.int .i64 now] 35))):=bel_alloc _ _
    have HX:Hid (BoxR (w.alloc (.cells #[.slice a len cap,.int .i64 now] 35)) w.heap.size [.slice a len cap,.int .i64 now]):=boxR_new _ _ _
    go_enter Tryz.func167,Tryz.ntmps167
    go_upto_region 1 with fail
    generalize (w.alloc (.cells #[.slice a len cap,.int .i64 now] 35))=w0 at HB HX ⊢
    obtain ⟨X,hX⟩:∃ X,X=w.heap.size:=⟨_,rfl⟩
    rw [←hX] at HX ⊢
    clear hX
    have t0:w0.cell? ⟨X,0,none⟩=some (.slice a len cap):=HX.out.at0 0 _ rfl
    have t1:w0.cell? ⟨X,1,none⟩=some (.int .i64 now):=HX.out.at0 1 _ rfl
    go_wp2
    go_ret
    exact ⟨ret_boolW hno.out.symm,HB.out⟩
  have h6':¬ (6:Int)<(ns.length:Int):=by omega
  have HB:Hid (Below w.heap.size w (w.alloc (.cells #[.slice a len cap,.int .i64 now] 35))):=bel_alloc _ _
  have HX:Hid (BoxR (w.alloc (.cells #[.slice a len cap,.int .i64 now] 35)) w.heap.size [.slice a len cap,.int .i64 now]):=boxR_new _ _ _
  go_enter Tryz.func167,Tryz.ntmps167
  go_upto_region 1 with fail
  generalize (w.alloc (.cells #[.slice a len cap,.int .i64 now] 35))=w0 at HB HX ⊢
  obtain ⟨X,hX⟩:∃ X,X=w.heap.size:=⟨_,rfl⟩
  rw [←hX] at HX ⊢
  clear hX
  have t0:w0.cell? ⟨X,0,none⟩=some (.slice a len cap):=HX.out.at0 0 _ rfl
  have t1:w0.cell? ⟨X,1,none⟩=some (.int .i64 now):=HX.out.at0 1 _ rfl
  clear t0 t1
  go_wp2
  go_loopw [12] (fun i wr=>∃ (k:Nat),k≤ns.length∧i=.int .i64 k∧Hid (nsT l ns k=true)∧Hid (Below w.heap.size w wr)∧Hid (BoxR wr X [.slice a len cap,.int .i64 now])) (fun i _=>ns.length-(intOf i).toNat)
  case atStart=>exact ⟨0,Nat.zero_le _,rfl,rfl,HB,HX⟩
  case round =>
    obtain ⟨k,hk,rfl,hto,hB,hX⟩:=hrel
    by_cases hlt:k<ns.length
    · obtain ⟨b, off, rfl, hb0, hc⟩ := (HN.out.below hB.out).2 (by omega)
      have hlt':(k:Int)<(ns.length:Int):=by omega
      have hk0:(0:Int)≤(k:Int):=by omega
      have g0:=(hc k hlt).1
      have g1:=(hc k hlt).2
      have hsz:=HM.out k hlt
      have HO:Hid (okE l ns k=(entB (nmAt ns k)&&((k==0||Op.bytesLess (nmAt ns (k-1)).toList (nmAt ns k).toList)&&(thB l (noAt ns k)&&noAt ns k != 1)))):=rfl
      have HP:Hid (∀ m,k=m+1→wr.cell? ⟨b,off+m*2,none⟩=some (.string (nmAt ns m))):=(fun m e=>(hc m (by omega)).1)
      have HT:Hid (∀ w',Below w.heap.size w w'→Calls Tryz.prog 90 #[.agg #[.slice a len cap,.int .i64 now],.int .i64 (noAt ns k)] w' fun e w''=>e=.returned (.bool (thB l (noAt ns k)))∧Below w'.heap.size w' w''):=(fun w' hb=>iThere_any a len cap l now _ hl w' (HI.out.below hb))
      clear hc
      obtain ⟨nm,hnm⟩:∃ nm,nm=nmAt ns k:=⟨_,rfl⟩
      rw [←hnm] at g0 hsz HO
      clear hnm
      generalize noAt ns k=v at g1 HO HT
      have hbN:Below wr.heap.size wr (wr.alloc (.cells #[.string nm,.int .i64 v] 105)):=bel_alloc _ _
      have HBn:Hid (Below w.heap.size w (wr.alloc (.cells #[.string nm,.int .i64 v] 105))):=Below.on hB.out hbN
      have HXn:Hid (BoxR (wr.alloc (.cells #[.string nm,.int .i64 v] 105)) X [.slice a len cap,.int .i64 now]):=hX.out.below hbN
      have HZn:Hid (BoxR (wr.alloc (.cells #[.string nm,.int .i64 v] 105)) wr.heap.size [.string nm,.int .i64 v]):=boxR_new _ _ _
      have HPn:Hid (∀ m,k=m+1→(wr.alloc (.cells #[.string nm,.int .i64 v] 105)).cell? ⟨b,off+m*2,none⟩=some (.string (nmAt ns m))):=(fun m e=>(hbN.cell (p:=⟨b,off+m*2,none⟩) hb0).trans (HP.out m e))
      clear HP hbN hX
      go_upto_region 6 with fail
      generalize (wr.alloc (.cells #[.string nm,.int .i64 v] 105))=wn at HBn HXn HZn HPn ⊢
      generalize wr.heap.size=Z at HZn ⊢
      clear g0 g1
      have z0:∀ d os,(Go.Sort.grow (redrawn wn d) os).cell? ⟨Z,0,none⟩=some (.string nm):=fun d os=>cell_regrown (HZn.out.at0 0 _ rfl) d os
      have z1:∀ d os,(Go.Sort.grow (redrawn wn d) os).cell? ⟨Z,1,none⟩=some (.int .i64 v):=fun d os=>cell_regrown (HZn.out.at0 1 _ rfl) d os
      have cE:∀ d os,Calls Tryz.prog 212 #[.string nm] (Go.Sort.grow (redrawn wn d) os) fun e w''=>e=.returned (.bool (entB nm))∧∃ p:Regrown,w''=Go.Sort.grow (redrawn wn p.d) p.os:=fun d os=>(iEntry_any nm (by unfold maxLen;omega) _).mono (fun e w'' ⟨h1,h2⟩=>⟨h1,⟨d,os⟩,h2⟩)
      cases he:entB nm
      · have hno : Hid (nsB l ns = false) := nsB_no hlt (by rw [HO.out]; simp [he])
        rw [he] at cE
        clear HO HPn
        refine wp_region_quiet_below (by kernel_rfl) (by kernel_rfl) ?_
        repeat (go_big_quiet_step (first | exact cE _ _))
        refine wpQuiet_nil ?_
        intro _ hw'
        obtain ⟨⟨dq,osq⟩,hw''⟩:=hw'
        subst hw''
        have HB2:Hid (Below w.heap.size w (Go.Sort.grow (redrawn wn dq) osq)):=HBn.out.trans ((below_regrown wn dq osq).mono HBn.out.size)
        have HX2:Hid (BoxR (Go.Sort.grow (redrawn wn dq) osq) X [.slice a len cap,.int .i64 now]):=HXn.out.below (below_regrown wn dq osq)
        have HZ2:Hid (BoxR (Go.Sort.grow (redrawn wn dq) osq) Z [.string nm,.int .i64 v]):=HZn.out.below (below_regrown wn dq osq)
        generalize Go.Sort.grow (redrawn wn dq) osq=w1 at HB2 HX2 HZ2 ⊢
        clear z0 z1  cE
        go_wp2
        go_ret
        exact ⟨ret_boolW hno.out.symm,HB2.out⟩
      rw [he] at cE HO
      clear he
      by_cases hk00:k=0
      · subst hk00
        clear HPn
        refine wp_region_quiet_below (by kernel_rfl) (by kernel_rfl) ?_
        repeat (go_big_quiet_step (first | exact cE _ _))
        refine wpQuiet_nil ?_
        intro _ hw'
        obtain ⟨⟨dq,osq⟩,hw''⟩:=hw'
        subst hw''
        have HB2:Hid (Below w.heap.size w (Go.Sort.grow (redrawn wn dq) osq)):=HBn.out.trans ((below_regrown wn dq osq).mono HBn.out.size)
        have HX2:Hid (BoxR (Go.Sort.grow (redrawn wn dq) osq) X [.slice a len cap,.int .i64 now]):=HXn.out.below (below_regrown wn dq osq)
        have HZ2:Hid (BoxR (Go.Sort.grow (redrawn wn dq) osq) Z [.string nm,.int .i64 v]):=HZn.out.below (below_regrown wn dq osq)
        generalize Go.Sort.grow (redrawn wn dq) osq=w1 at HB2 HX2 HZ2 ⊢
        clear z0 z1  cE
        skip
        have z0:w1.cell? ⟨Z,0,none⟩=some (.string nm):=HZ2.out.at0 0 _ rfl
        have z1:w1.cell? ⟨Z,1,none⟩=some (.int .i64 v):=HZ2.out.at0 1 _ rfl
        have t0:w1.cell? ⟨X,0,none⟩=some (.slice a len cap):=HX2.out.at0 0 _ rfl
        have t1:w1.cell? ⟨X,1,none⟩=some (.int .i64 now):=HX2.out.at0 1 _ rfl
        by_cases e1:v=1
        · have hno : Hid (nsB l ns = false) := nsB_no hlt (by rw [HO.out]; simp [e1])
          have e2:(v==1)=true:=by simp [e1]
          clear e1 HO
          go_wp2
          go_ret
          exact ⟨ret_boolW hno.out.symm,HB2.out⟩
        · have e2 : (v == 1) = false := by simp [e1]
          cases ht:thB l v
          · have hno : Hid (nsB l ns = false) := nsB_no hlt (by rw [HO.out]; simp [ht])
            rw [ht] at HT
            clear e1 HO
            go_wp2_with (go_at_call 90;refine (HT.out _ HB2.out).mono ?_;rintro e w3 ⟨rfl,hb⟩;have HB3:Hid (Below w.heap.size w w3):=Below.on HB2.out hb;have HX3:Hid (BoxR w3 X [.slice a len cap,.int .i64 now]):=HX2.out.below hb;clear hb)
            go_ret
            exact ⟨ret_boolW hno.out.symm,HB3.out⟩
          · have hyes : Hid (nsT l ns (0 + 1) = true) := nsT_next hto.out (by rw [HO.out]; simp [ht, e1])
            rw [ht] at HT
            clear e1 HO
            go_wp2_with (go_at_call 90;refine (HT.out _ HB2.out).mono ?_;rintro e w3 ⟨rfl,hb⟩;have HB3:Hid (Below w.heap.size w w3):=Below.on HB2.out hb;have HX3:Hid (BoxR w3 X [.slice a len cap,.int .i64 now]):=HX2.out.below hb;clear hb)
            go_roundw
            case rel=>exact ⟨0+1,by omega,by go_num,hyes,HB3,HX3⟩
            case measure=>simp [intOf];omega
      · obtain ⟨m, rfl⟩ : ∃ m, k = m + 1 := ⟨k - 1, by omega⟩
        have p0:∀ d os,(Go.Sort.grow (redrawn wn d) os).cell? ⟨b,off+m*2,none⟩=some (.string (nmAt ns m)):=fun d os=>cell_regrown (HPn.out m rfl) d os
        clear HPn
        have hm1:(m:Int)<(ns.length:Int):=by omega
        have hm0:(0:Int)≤(m:Int):=by omega
        have hgt:(0:Int)<(m:Int)+1:=by omega
        have eM:m+1-1=m:=by omega
        have eZ:(m+1==0)=false:=by simp
        rw [eM,eZ] at HO
        clear eM eZ hk00
        simp only [Int.natCast_add,Int.cast_ofNat_Int] at hlt' hk0
        generalize nmAt ns m=pm at p0 HO
        cases hless:Op.bytesLess pm.toList nm.toList
        · have hno : Hid (nsB l ns = false) := nsB_no hlt (by rw [HO.out]; simp [hless])
          clear HO
          refine wp_region_quiet_below (by kernel_rfl) (by kernel_rfl) ?_
          repeat (go_big_quiet_step (first | exact cE _ _))
          refine wpQuiet_nil ?_
          intro _ hw'
          obtain ⟨⟨dq,osq⟩,hw''⟩:=hw'
          subst hw''
          have HB2:Hid (Below w.heap.size w (Go.Sort.grow (redrawn wn dq) osq)):=HBn.out.trans ((below_regrown wn dq osq).mono HBn.out.size)
          have HX2:Hid (BoxR (Go.Sort.grow (redrawn wn dq) osq) X [.slice a len cap,.int .i64 now]):=HXn.out.below (below_regrown wn dq osq)
          have HZ2:Hid (BoxR (Go.Sort.grow (redrawn wn dq) osq) Z [.string nm,.int .i64 v]):=HZn.out.below (below_regrown wn dq osq)
          generalize Go.Sort.grow (redrawn wn dq) osq=w1 at HB2 HX2 HZ2 ⊢
          clear z0 z1 p0 cE
          go_wp2
          go_ret
          exact ⟨ret_boolW hno.out.symm,HB2.out⟩
        · rw [hless] at HO
          refine wp_region_quiet_below (by kernel_rfl) (by kernel_rfl) ?_
          repeat (go_big_quiet_step (first | exact cE _ _))
          refine wpQuiet_nil ?_
          intro _ hw'
          obtain ⟨⟨dq,osq⟩,hw''⟩:=hw'
          subst hw''
          have HB2:Hid (Below w.heap.size w (Go.Sort.grow (redrawn wn dq) osq)):=HBn.out.trans ((below_regrown wn dq osq).mono HBn.out.size)
          have HX2:Hid (BoxR (Go.Sort.grow (redrawn wn dq) osq) X [.slice a len cap,.int .i64 now]):=HXn.out.below (below_regrown wn dq osq)
          have HZ2:Hid (BoxR (Go.Sort.grow (redrawn wn dq) osq) Z [.string nm,.int .i64 v]):=HZn.out.below (below_regrown wn dq osq)
          generalize Go.Sort.grow (redrawn wn dq) osq=w1 at HB2 HX2 HZ2 ⊢
          clear z0 z1 p0 cE
          skip
          have z0:w1.cell? ⟨Z,0,none⟩=some (.string nm):=HZ2.out.at0 0 _ rfl
          have z1:w1.cell? ⟨Z,1,none⟩=some (.int .i64 v):=HZ2.out.at0 1 _ rfl
          have t0:w1.cell? ⟨X,0,none⟩=some (.slice a len cap):=HX2.out.at0 0 _ rfl
          have t1:w1.cell? ⟨X,1,none⟩=some (.int .i64 now):=HX2.out.at0 1 _ rfl
          by_cases e1:v=1
          · have hno : Hid (nsB l ns = false) := nsB_no hlt (by rw [HO.out]; simp [e1])
            have e2:(v==1)=true:=by simp [e1]
            clear e1 HO
            go_wp2
            go_ret
            exact ⟨ret_boolW hno.out.symm,HB2.out⟩
          · have e2 : (v == 1) = false := by simp [e1]
            cases ht:thB l v
            · have hno : Hid (nsB l ns = false) := nsB_no hlt (by rw [HO.out]; simp [ht])
              rw [ht] at HT
              clear e1 HO
              go_wp2_with (go_at_call 90;refine (HT.out _ HB2.out).mono ?_;rintro e w3 ⟨rfl,hb⟩;have HB3:Hid (Below w.heap.size w w3):=Below.on HB2.out hb;have HX3:Hid (BoxR w3 X [.slice a len cap,.int .i64 now]):=HX2.out.below hb;clear hb)
              go_ret
              exact ⟨ret_boolW hno.out.symm,HB3.out⟩
            · have hyes : Hid (nsT l ns (m + 1 + 1) = true) := nsT_next hto.out (by rw [HO.out]; simp [ht, e1])
              rw [ht] at HT
              clear e1 HO
              go_wp2_with (go_at_call 90;refine (HT.out _ HB2.out).mono ?_;rintro e w3 ⟨rfl,hb⟩;have HB3:Hid (Below w.heap.size w w3):=Below.on HB2.out hb;have HX3:Hid (BoxR w3 X [.slice a len cap,.int .i64 now]):=HX2.out.below hb;clear hb)
              go_roundw
              case rel=>exact ⟨m+1+1,by omega,by go_num,hyes,HB3,HX3⟩
              case measure=>simp [intOf];omega
    · have : k = ns.length := by omega
      subst this
      have hyes:Hid (nsB l ns=true):=nsB_yes (by omega) hto.out
      go_wp2
      go_ret
      exact ⟨ret_boolW hyes.out.symm,hB.out⟩
end Go.Proofs.YtabfdidnjibdeaaGreatDoor
namespace Go.Proofs.YtabfdidnjibdeaaGreatDoor
open Go.RowKit Go.PlainAid
set_option linter.unusedVariables false
theorem DB.c19 {w:World}{B:Nat}{x:Nd}{y:Na}{n:Int}(h:BoxR w B (drV x y n)):w.cell? ⟨B,19,none⟩=some (.int .i64 x.li):=h.at0 19 _ rfl
theorem DB.c20 {w:World}{B:Nat}{x:Nd}{y:Na}{n:Int}(h:BoxR w B (drV x y n)):w.cell? ⟨B,20,none⟩=some (.int .i64 x.up):=h.at0 20 _ rfl
theorem DB.c21 {w:World}{B:Nat}{x:Nd}{y:Na}{n:Int}(h:BoxR w B (drV x y n)):w.cell? ⟨B,21,none⟩=some (.string x.bo):=h.at0 21 _ rfl
theorem DB.c22 {w:World}{B:Nat}{x:Nd}{y:Na}{n:Int}(h:BoxR w B (drV x y n)):w.cell? ⟨B,22,none⟩=some (.slice y.nA x.ns.length y.nC):=h.at0 22 _ rfl
theorem DB.c24 {w:World}{B:Nat}{x:Nd}{y:Na}{n:Int}(h:BoxR w B (drV x y n)):w.cell? ⟨B,24,none⟩=some (.int .i64 n):=h.at0 24 _ rfl
theorem DB.nd {w:World}{B:Nat}{x:Nd}{y:Na}{n:Int}(h:BoxR w B (drV x y n)):N24 w B 0 x y:=dr_nd h.at0
theorem there25 (w:World):(w.alloc (.cells #[.int .i64 0,.int .i64 0,.int .i64 0,.int .i64 0,.int .i64 0,.int .i64 0,.int .i64 0,.slice none 0 0,.slice none 0 0,.bool false,.int .i64 0,.bool false,.int .i64 0,.int .i64 0,.int .i64 0,.slice none 0 0,.slice none 0 0,.bool false,.int .i64 0,.int .i64 0,.int .i64 0,.string ⟨#[]⟩,.slice none 0 0,.int .i64 0,.int .i64 0] 162)).there w.heap.size 0 25:=(boxW_new w [.int .i64 0,.int .i64 0,.int .i64 0,.int .i64 0,.int .i64 0,.int .i64 0,.int .i64 0,.slice none 0 0,.slice none 0 0,.bool false,.int .i64 0,.bool false,.int .i64 0,.int .i64 0,.int .i64 0,.slice none 0 0,.slice none 0 0,.bool false,.int .i64 0,.int .i64 0,.int .i64 0,.string ⟨#[]⟩,.slice none 0 0,.int .i64 0,.int .i64 0] 162).there 0 25 (by simp)
set_option maxRecDepth 20000 in
set_option maxHeartbeats 8000000 in
theorem iNamedUp_any (a:Option Addr)(len cap:Nat)(l:List Nd)(now:Int)(x:Nd)(y:Na)(n:Int)(hl:len≤1048576)(hf:∀ i,i<len→NdFit 1048576 (ndAt l i))(w:World)(hi:Nds a len l w) :
    Calls Tryz.prog 168 #[.agg #[.slice a len cap,.int .i64 now],.agg (drV x y n).toArray] w fun e w'=>e=.returned (.bool (diB l x.up&&hasE (ndAt l (x.up-1).toNat).ns n (ndAt l (x.up-1).toNat).ns.length))∧Below w.heap.size w w':=by
  have HI:Hid (Nds a len l w):=hi
  have HF:Hid (∀ i,i<len→NdFit 1048576 (ndAt l i)):=hf
  have hll:=hi.1
  clear hi hf
  cases hd:diB l x.up
  · have HC : Hid (∀ w', Below w.heap.size w w' → Calls Tryz.prog 127 #[.agg #[.slice a len cap, .int .i64 now], .int .i64 x.up] w' fun e w'' => e = .returned (.tuple #[.agg (drV ndZ naZ 0).toArray, .bool false]) ∧ Below w'.heap.size w' w'') := (fun w' hb => iDirAt_no a len cap l now x.up hl w' (HI.out.below hb) hd)
    have HX:Hid (BoxR ((w.alloc (.cells #[.slice a len cap,.int .i64 now] 35)).alloc (.cells (drV x y n).toArray 162)) w.heap.size [.slice a len cap,.int .i64 now]):=(boxR_new w [.slice a len cap,.int .i64 now] 35).below (bel_alloc _ _)
    have HZ:Hid (BoxR ((w.alloc (.cells #[.slice a len cap,.int .i64 now] 35)).alloc (.cells (drV x y n).toArray 162)) (w.heap.size+1) (drV x y n)):=(by
      have h:=boxR_new (w.alloc (.cells #[.slice a len cap,.int .i64 now] 35)) (drV x y n) 162
      simp only [World.size_alloc] at h
      exact h)
    have HB:Hid (Below w.heap.size w ((w.alloc (.cells #[.slice a len cap,.int .i64 now] 35)).alloc (.cells (drV x y n).toArray 162))):=bl2T _ _ _
    go_enter Tryz.func168,Tryz.ntmps168
    go_upto_region 1 with fail
    generalize ((w.alloc (.cells #[.slice a len cap,.int .i64 now] 35)).alloc (.cells (drV x y n).toArray 162))=w0 at HX HZ HB ⊢
    obtain ⟨X,hX⟩:∃ X,X=w.heap.size:=⟨_,rfl⟩
    have HXw:Hid (X=w.heap.size):=hX
    rw [←hX] at HX HZ ⊢
    clear hX
    have t0:w0.cell? ⟨X,0,none⟩=some (.slice a len cap):=HX.out.at0 0 _ rfl
    have t1:w0.cell? ⟨X,1,none⟩=some (.int .i64 now):=HX.out.at0 1 _ rfl
    have e20:=DB.c20 HZ.out
    go_wp2_with fail
    refine (HC.out _ HB.out).mono ?_
    rintro e w1 ⟨rfl,hb⟩
    replace HB:Hid (Below w.heap.size w w1):=Below.on HB.out hb
    replace HX:Hid (BoxR w1 X [.slice a len cap,.int .i64 now]):=HX.out.below hb
    replace HZ:Hid (BoxR w1 (X+1) (drV x y n)):=HZ.out.below hb
    replace t0:w1.cell? ⟨X,0,none⟩=some (.slice a len cap):=HX.out.at0 0 _ rfl
    replace t1:w1.cell? ⟨X,1,none⟩=some (.int .i64 now):=HX.out.at0 1 _ rfl
    replace e20:=DB.c20 HZ.out
    clear hb
    go_upto_region 2 with (refine wpList_store_list (by rfl) 162 _ _ (by rfl) _ _ (drV ndZ naZ 0) (by rfl) (by rfl) (by rw [drV_len];exact there25 _) (by kernel_rfl) (drV_ones _ _ _) ?_)
    go_wp2
    go_ret
    exact ⟨by simp,bl_setsT (by have:=HB.out.size;omega) _ _ ((HB.out).trans ((bel_alloc _ _).mono HB.out.size))⟩
  · have hin := inR_iff.1 (thB_num (diB_th hd))
    obtain ⟨k,hk⟩:∃ k:Nat,x.up=(k:Int)+1:=⟨(x.up-1).toNat,by omega⟩
    have HE:Hid ((true&&hasE (ndAt l (x.up-1).toNat).ns n (ndAt l (x.up-1).toNat).ns.length)=decide (0<cntE (ndAt l k).ns n (ndAt l k).ns.length)):=(by show _=_;rw [hk,at_succ,hasE_cnt];rfl)
    rw [hk] at hd
    have HC:Hid (∀ w',Below w.heap.size w w'→Calls Tryz.prog 127 #[.agg #[.slice a len cap,.int .i64 now],.int .i64 x.up] w' fun e w''=>∃ yu,e=.returned (.tuple #[.agg (drV (ndAt l k) yu ((k:Int)+1)).toArray,.bool true])∧NdIn w'' (ndAt l k) yu∧Below w'.heap.size w' w''):=(fun w' hb=>by rw [hk];exact iDirAt_yes a len cap l now k hl w' (HI.out.below hb) hd)
    have HFk:Hid (NdFit 1048576 (ndAt l k)):=HF.out k (by omega)
    clear hin hk hd hll
    generalize (true&&hasE (ndAt l (x.up-1).toNat).ns n (ndAt l (x.up-1).toNat).ns.length)=res at HE ⊢
    generalize ndAt l k=u at HE HC HFk
    generalize ((k:Int)+1)=nu at HC
    have HX:Hid (BoxR ((w.alloc (.cells #[.slice a len cap,.int .i64 now] 35)).alloc (.cells (drV x y n).toArray 162)) w.heap.size [.slice a len cap,.int .i64 now]):=(boxR_new w [.slice a len cap,.int .i64 now] 35).below (bel_alloc _ _)
    have HZ:Hid (BoxR ((w.alloc (.cells #[.slice a len cap,.int .i64 now] 35)).alloc (.cells (drV x y n).toArray 162)) (w.heap.size+1) (drV x y n)):=(by
      have h:=boxR_new (w.alloc (.cells #[.slice a len cap,.int .i64 now] 35)) (drV x y n) 162
      simp only [World.size_alloc] at h
      exact h)
    have HB:Hid (Below w.heap.size w ((w.alloc (.cells #[.slice a len cap,.int .i64 now] 35)).alloc (.cells (drV x y n).toArray 162))):=bl2T _ _ _
    go_enter Tryz.func168,Tryz.ntmps168
    go_upto_region 1 with fail
    generalize ((w.alloc (.cells #[.slice a len cap,.int .i64 now] 35)).alloc (.cells (drV x y n).toArray 162))=w0 at HX HZ HB ⊢
    obtain ⟨X,hX⟩:∃ X,X=w.heap.size:=⟨_,rfl⟩
    have HXw:Hid (X=w.heap.size):=hX
    rw [←hX] at HX HZ ⊢
    clear hX
    have t0:w0.cell? ⟨X,0,none⟩=some (.slice a len cap):=HX.out.at0 0 _ rfl
    have t1:w0.cell? ⟨X,1,none⟩=some (.int .i64 now):=HX.out.at0 1 _ rfl
    have e20:=DB.c20 HZ.out
    go_wp2_with fail
    refine (HC.out _ HB.out).mono ?_
    rintro e w1 ⟨yu,rfl,hNu,hb⟩
    replace HB:Hid (Below w.heap.size w w1):=Below.on HB.out hb
    replace HX:Hid (BoxR w1 X [.slice a len cap,.int .i64 now]):=HX.out.below hb
    replace HZ:Hid (BoxR w1 (X+1) (drV x y n)):=HZ.out.below hb
    replace t0:w1.cell? ⟨X,0,none⟩=some (.slice a len cap):=HX.out.at0 0 _ rfl
    replace t1:w1.cell? ⟨X,1,none⟩=some (.int .i64 now):=HX.out.at0 1 _ rfl
    replace e20:=DB.c20 HZ.out
    have HNu:Hid (NdIn w1 u yu):=hNu
    clear hNu
    clear hb
    go_upto_region 2 with (refine wpList_store_list (by rfl) 162 _ _ (by rfl) _ _ (drV u yu nu) (by rfl) (by rfl) (by rw [drV_len];exact there25 _) (by kernel_rfl) (drV_ones _ _ _) ?_)
    have hbN:Below w1.heap.size w1 ((w1.alloc (.cells #[.int .i64 0,.int .i64 0,.int .i64 0,.int .i64 0,.int .i64 0,.int .i64 0,.int .i64 0,.slice none 0 0,.slice none 0 0,.bool false,.int .i64 0,.bool false,.int .i64 0,.int .i64 0,.int .i64 0,.slice none 0 0,.slice none 0 0,.bool false,.int .i64 0,.int .i64 0,.int .i64 0,.string ⟨#[]⟩,.slice none 0 0,.int .i64 0,.int .i64 0] 162)).setCells w1.heap.size 0 (drV u yu nu)):=bl_setsT (Nat.le_refl _) _ _ (bel_alloc _ _)
    have HBn:Hid (Below w.heap.size w ((w1.alloc (.cells #[.int .i64 0,.int .i64 0,.int .i64 0,.int .i64 0,.int .i64 0,.int .i64 0,.int .i64 0,.slice none 0 0,.slice none 0 0,.bool false,.int .i64 0,.bool false,.int .i64 0,.int .i64 0,.int .i64 0,.slice none 0 0,.slice none 0 0,.bool false,.int .i64 0,.int .i64 0,.int .i64 0,.string ⟨#[]⟩,.slice none 0 0,.int .i64 0,.int .i64 0] 162)).setCells w1.heap.size 0 (drV u yu nu))):=Below.on HB.out hbN
    have HZn:Hid (BoxR ((w1.alloc (.cells #[.int .i64 0,.int .i64 0,.int .i64 0,.int .i64 0,.int .i64 0,.int .i64 0,.int .i64 0,.slice none 0 0,.slice none 0 0,.bool false,.int .i64 0,.bool false,.int .i64 0,.int .i64 0,.int .i64 0,.slice none 0 0,.slice none 0 0,.bool false,.int .i64 0,.int .i64 0,.int .i64 0,.string ⟨#[]⟩,.slice none 0 0,.int .i64 0,.int .i64 0] 162)).setCells w1.heap.size 0 (drV u yu nu)) (X+1) (drV x y n)):=HZ.out.below hbN
    have HUn:Hid (BoxR ((w1.alloc (.cells #[.int .i64 0,.int .i64 0,.int .i64 0,.int .i64 0,.int .i64 0,.int .i64 0,.int .i64 0,.slice none 0 0,.slice none 0 0,.bool false,.int .i64 0,.bool false,.int .i64 0,.int .i64 0,.int .i64 0,.slice none 0 0,.slice none 0 0,.bool false,.int .i64 0,.int .i64 0,.int .i64 0,.string ⟨#[]⟩,.slice none 0 0,.int .i64 0,.int .i64 0] 162)).setCells w1.heap.size 0 (drV u yu nu)) w1.heap.size (drV u yu nu)):=⟨by rw [size_setCellsT];simp,World.rangeAt_setCells_same _ _ _ _ ((boxW_new w1 [.int .i64 0,.int .i64 0,.int .i64 0,.int .i64 0,.int .i64 0,.int .i64 0,.int .i64 0,.slice none 0 0,.slice none 0 0,.bool false,.int .i64 0,.bool false,.int .i64 0,.int .i64 0,.int .i64 0,.slice none 0 0,.slice none 0 0,.bool false,.int .i64 0,.int .i64 0,.int .i64 0,.string ⟨#[]⟩,.slice none 0 0,.int .i64 0,.int .i64 0] 162).there 0 25 (by simp))⟩
    have HNu2:Hid (NdIn ((w1.alloc (.cells #[.int .i64 0,.int .i64 0,.int .i64 0,.int .i64 0,.int .i64 0,.int .i64 0,.int .i64 0,.slice none 0 0,.slice none 0 0,.bool false,.int .i64 0,.bool false,.int .i64 0,.int .i64 0,.int .i64 0,.slice none 0 0,.slice none 0 0,.bool false,.int .i64 0,.int .i64 0,.int .i64 0,.string ⟨#[]⟩,.slice none 0 0,.int .i64 0,.int .i64 0] 162)).setCells w1.heap.size 0 (drV u yu nu)) u yu):=HNu.out.below hbN
    clear hbN HNu HB HX HZ t0 t1 e20
    generalize ((w1.alloc (.cells #[.int .i64 0,.int .i64 0,.int .i64 0,.int .i64 0,.int .i64 0,.int .i64 0,.int .i64 0,.slice none 0 0,.slice none 0 0,.bool false,.int .i64 0,.bool false,.int .i64 0,.int .i64 0,.int .i64 0,.slice none 0 0,.slice none 0 0,.bool false,.int .i64 0,.int .i64 0,.int .i64 0,.string ⟨#[]⟩,.slice none 0 0,.int .i64 0,.int .i64 0] 162)).setCells w1.heap.size 0 (drV u yu nu))=w2 at HBn HZn HUn HNu2 ⊢
    generalize w1.heap.size=U at HUn ⊢
    have e24:=DB.c24 HZn.out
    have HTm:Hid (Calls Tryz.prog 213 #[.agg (ndV u yu).toArray,.int .i64 n] w2 fun e w''=>e=.returned (.int .i64 (cntE u.ns n u.ns.length))∧Below w2.heap.size w2 w''):=iTimes_any u yu n HFk.out.nl _ HNu2.out.nA
    go_wp2_with (first | (refine wpList_load_want (by rfl) 84 _ (by rfl) _ _ (by rfl) _ _ (DB.nd HUn.out) Tryz.underlying84 rfl (by kernel_rfl) ?_) | (go_at_call 213;refine (HTm.out).mono ?_;rintro e w3 ⟨rfl,hb⟩;have HB3:Hid (Below w.heap.size w w3):=Below.on HBn.out hb;clear hb))
    go_ret
    exact ⟨ret_boolW (by rw [HE.out]),HB3.out⟩
set_option maxRecDepth 20000 in
set_option maxHeartbeats 8000000 in
theorem iDirR_any (a:Option Addr)(len cap:Nat)(l:List Nd)(now:Int)(x:Nd)(y:Na)(n:Int)(hl:len≤1048576)(hf:∀ i,i<len→NdFit 1048576 (ndAt l i))(hx:NdFit 1048576 x)(w:World)(hi:Nds a len l w)(hy:NdIn w x y) :
    Calls Tryz.prog 118 #[.agg #[.slice a len cap,.int .i64 now],.agg (drV x y n).toArray] w fun e w'=>e=.returned (.bool (x.dirI l n))∧Below w.heap.size w w':=by
  have HI:Hid (Nds a len l w):=hi
  have HF:Hid (∀ i,i<len→NdFit 1048576 (ndAt l i)):=hf
  have HK:Hid (NdFit 1048576 x):=hx
  have HM:Hid (NdIn w x y):=hy
  clear hi hf hx hy
  have HE:Hid (x.dirI l n=(x.li==1&&(x.bo.toList.isEmpty&&(x.dB&&(nsB l x.ns&&(n==1||(diB l x.up&&hasE (ndAt l (x.up-1).toNat).ns n (ndAt l (x.up-1).toNat).ns.length))))))):=(by
    have hbe:(x.bo.toList==[])=x.bo.toList.isEmpty:=by cases x.bo.toList<;>rfl
    show _=_
    rw [←hbe]
    rfl)
  have HU:Hid (∀ w',Below w.heap.size w w'→Calls Tryz.prog 168 #[.agg #[.slice a len cap,.int .i64 now],.agg (drV x y n).toArray] w' fun e w''=>e=.returned (.bool (diB l x.up&&hasE (ndAt l (x.up-1).toNat).ns n (ndAt l (x.up-1).toNat).ns.length))∧Below w'.heap.size w' w''):=(fun w' hb=>iNamedUp_any a len cap l now x y n hl HF.out w' (HI.out.below hb))
  generalize (diB l x.up&&hasE (ndAt l (x.up-1).toNat).ns n (ndAt l (x.up-1).toNat).ns.length)=up at HE HU
  have HB1:Hid (∀ w',Below w.heap.size w w'→Calls Tryz.prog 166 #[.agg (ndV x y).toArray] w' fun e w''=>e=.returned (.bool x.dB)∧Below w'.heap.size w' w''):=(fun w' hb=>iDefault_any x y HK.out _ (HM.out.below hb))
  have HB2:Hid (∀ w',Below w.heap.size w w'→Calls Tryz.prog 167 #[.agg #[.slice a len cap,.int .i64 now],.slice y.nA x.ns.length y.nC] w' fun e w''=>e=.returned (.bool (nsB l x.ns))∧Below w'.heap.size w' w''):=(fun w' hb=>iNames_any a len cap l now _ _ x.ns hl HK.out.nl HK.out.nm _ (HI.out.below hb) (HM.out.nA.below hb))
  generalize x.dB=cD at HE HB1
  generalize nsB l x.ns=cN at HE HB2
  cases c1:(x.li==1)
  · rw [c1] at HE
    have d1:(x.li != 1)=true:=by rw [bne,c1];rfl
    have HX:Hid (BoxR ((w.alloc (.cells #[.slice a len cap,.int .i64 now] 35)).alloc (.cells (drV x y n).toArray 162)) w.heap.size [.slice a len cap,.int .i64 now]):=(boxR_new w [.slice a len cap,.int .i64 now] 35).below (bel_alloc _ _)
    have HZ:Hid (BoxR ((w.alloc (.cells #[.slice a len cap,.int .i64 now] 35)).alloc (.cells (drV x y n).toArray 162)) (w.heap.size+1) (drV x y n)):=(by
      have h:=boxR_new (w.alloc (.cells #[.slice a len cap,.int .i64 now] 35)) (drV x y n) 162
      simp only [World.size_alloc] at h
      exact h)
    have HB:Hid (Below w.heap.size w ((w.alloc (.cells #[.slice a len cap,.int .i64 now] 35)).alloc (.cells (drV x y n).toArray 162))):=bl2T _ _ _
    go_enter Tryz.func118,Tryz.ntmps118
    go_upto_region 1 with fail
    generalize ((w.alloc (.cells #[.slice a len cap,.int .i64 now] 35)).alloc (.cells (drV x y n).toArray 162))=w0 at HX HZ HB ⊢
    obtain ⟨X,hX⟩:∃ X,X=w.heap.size:=⟨_,rfl⟩
    have HXw:Hid (X=w.heap.size):=hX
    rw [←hX] at HX HZ ⊢
    clear hX
    have t0:w0.cell? ⟨X,0,none⟩=some (.slice a len cap):=HX.out.at0 0 _ rfl
    have t1:w0.cell? ⟨X,1,none⟩=some (.int .i64 now):=HX.out.at0 1 _ rfl
    have e19:=DB.c19 HZ.out
    have e20:=DB.c20 HZ.out
    have e21:=DB.c21 HZ.out
    have e22:=DB.c22 HZ.out
    have e24:=DB.c24 HZ.out
    go_wp2_with (first
      | fail)
    go_ret
    exact ⟨ret_boolW (by rw [HE.out];first | done | simp),HB.out⟩
  have d1:(x.li != 1)=false:=by rw [bne,c1];rfl
  rw [c1] at HE
  cases c2:x.bo.toList.isEmpty
  · rw [c2] at HE
    have HX:Hid (BoxR ((w.alloc (.cells #[.slice a len cap,.int .i64 now] 35)).alloc (.cells (drV x y n).toArray 162)) w.heap.size [.slice a len cap,.int .i64 now]):=(boxR_new w [.slice a len cap,.int .i64 now] 35).below (bel_alloc _ _)
    have HZ:Hid (BoxR ((w.alloc (.cells #[.slice a len cap,.int .i64 now] 35)).alloc (.cells (drV x y n).toArray 162)) (w.heap.size+1) (drV x y n)):=(by
      have h:=boxR_new (w.alloc (.cells #[.slice a len cap,.int .i64 now] 35)) (drV x y n) 162
      simp only [World.size_alloc] at h
      exact h)
    have HB:Hid (Below w.heap.size w ((w.alloc (.cells #[.slice a len cap,.int .i64 now] 35)).alloc (.cells (drV x y n).toArray 162))):=bl2T _ _ _
    go_enter Tryz.func118,Tryz.ntmps118
    go_upto_region 1 with fail
    generalize ((w.alloc (.cells #[.slice a len cap,.int .i64 now] 35)).alloc (.cells (drV x y n).toArray 162))=w0 at HX HZ HB ⊢
    obtain ⟨X,hX⟩:∃ X,X=w.heap.size:=⟨_,rfl⟩
    have HXw:Hid (X=w.heap.size):=hX
    rw [←hX] at HX HZ ⊢
    clear hX
    have t0:w0.cell? ⟨X,0,none⟩=some (.slice a len cap):=HX.out.at0 0 _ rfl
    have t1:w0.cell? ⟨X,1,none⟩=some (.int .i64 now):=HX.out.at0 1 _ rfl
    have e19:=DB.c19 HZ.out
    have e20:=DB.c20 HZ.out
    have e21:=DB.c21 HZ.out
    have e22:=DB.c22 HZ.out
    have e24:=DB.c24 HZ.out
    go_wp2_with (first
      | fail)
    go_ret
    exact ⟨ret_boolW (by rw [HE.out];first | done | simp),HB.out⟩
  rw [c2] at HE
  cases cD
  · skip
    have HX:Hid (BoxR ((w.alloc (.cells #[.slice a len cap,.int .i64 now] 35)).alloc (.cells (drV x y n).toArray 162)) w.heap.size [.slice a len cap,.int .i64 now]):=(boxR_new w [.slice a len cap,.int .i64 now] 35).below (bel_alloc _ _)
    have HZ:Hid (BoxR ((w.alloc (.cells #[.slice a len cap,.int .i64 now] 35)).alloc (.cells (drV x y n).toArray 162)) (w.heap.size+1) (drV x y n)):=(by
      have h:=boxR_new (w.alloc (.cells #[.slice a len cap,.int .i64 now] 35)) (drV x y n) 162
      simp only [World.size_alloc] at h
      exact h)
    have HB:Hid (Below w.heap.size w ((w.alloc (.cells #[.slice a len cap,.int .i64 now] 35)).alloc (.cells (drV x y n).toArray 162))):=bl2T _ _ _
    go_enter Tryz.func118,Tryz.ntmps118
    go_upto_region 1 with fail
    generalize ((w.alloc (.cells #[.slice a len cap,.int .i64 now] 35)).alloc (.cells (drV x y n).toArray 162))=w0 at HX HZ HB ⊢
    obtain ⟨X,hX⟩:∃ X,X=w.heap.size:=⟨_,rfl⟩
    have HXw:Hid (X=w.heap.size):=hX
    rw [←hX] at HX HZ ⊢
    clear hX
    have t0:w0.cell? ⟨X,0,none⟩=some (.slice a len cap):=HX.out.at0 0 _ rfl
    have t1:w0.cell? ⟨X,1,none⟩=some (.int .i64 now):=HX.out.at0 1 _ rfl
    have e19:=DB.c19 HZ.out
    have e20:=DB.c20 HZ.out
    have e21:=DB.c21 HZ.out
    have e22:=DB.c22 HZ.out
    have e24:=DB.c24 HZ.out
    go_wp2_with (first
      | (refine wpList_load_want (by rfl) 84 _ (by rfl) _ _ (by rfl) _ _ (DB.nd HZ.out) Tryz.underlying84 rfl (by kernel_rfl) ?_)
      | (refine wpList_load_want (by rfl) 162 _ (by rfl) _ _ (by rfl) _ _ HZ.out.at0 Tryz.underlying162 rfl (by kernel_rfl) ?_)
      | (go_at_call 166;refine (HB1.out _ HB.out).mono ?_;rintro e w1 ⟨rfl,hb⟩;replace HB:Hid (Below w.heap.size w w1):=Below.on HB.out hb;replace HX:Hid (BoxR w1 X [.slice a len cap,.int .i64 now]):=HX.out.below hb;replace HZ:Hid (BoxR w1 (X+1) (drV x y n)):=HZ.out.below hb;replace t0:w1.cell? ⟨X,0,none⟩=some (.slice a len cap):=HX.out.at0 0 _ rfl;replace t1:w1.cell? ⟨X,1,none⟩=some (.int .i64 now):=HX.out.at0 1 _ rfl;replace e19:=DB.c19 HZ.out;replace e20:=DB.c20 HZ.out;replace e21:=DB.c21 HZ.out;replace e22:=DB.c22 HZ.out;replace e24:=DB.c24 HZ.out;clear hb))
    go_ret
    exact ⟨ret_boolW (by rw [HE.out];first | done | simp),HB.out⟩
  cases cN
  · skip
    have HX:Hid (BoxR ((w.alloc (.cells #[.slice a len cap,.int .i64 now] 35)).alloc (.cells (drV x y n).toArray 162)) w.heap.size [.slice a len cap,.int .i64 now]):=(boxR_new w [.slice a len cap,.int .i64 now] 35).below (bel_alloc _ _)
    have HZ:Hid (BoxR ((w.alloc (.cells #[.slice a len cap,.int .i64 now] 35)).alloc (.cells (drV x y n).toArray 162)) (w.heap.size+1) (drV x y n)):=(by
      have h:=boxR_new (w.alloc (.cells #[.slice a len cap,.int .i64 now] 35)) (drV x y n) 162
      simp only [World.size_alloc] at h
      exact h)
    have HB:Hid (Below w.heap.size w ((w.alloc (.cells #[.slice a len cap,.int .i64 now] 35)).alloc (.cells (drV x y n).toArray 162))):=bl2T _ _ _
    go_enter Tryz.func118,Tryz.ntmps118
    go_upto_region 1 with fail
    generalize ((w.alloc (.cells #[.slice a len cap,.int .i64 now] 35)).alloc (.cells (drV x y n).toArray 162))=w0 at HX HZ HB ⊢
    obtain ⟨X,hX⟩:∃ X,X=w.heap.size:=⟨_,rfl⟩
    have HXw:Hid (X=w.heap.size):=hX
    rw [←hX] at HX HZ ⊢
    clear hX
    have t0:w0.cell? ⟨X,0,none⟩=some (.slice a len cap):=HX.out.at0 0 _ rfl
    have t1:w0.cell? ⟨X,1,none⟩=some (.int .i64 now):=HX.out.at0 1 _ rfl
    have e19:=DB.c19 HZ.out
    have e20:=DB.c20 HZ.out
    have e21:=DB.c21 HZ.out
    have e22:=DB.c22 HZ.out
    have e24:=DB.c24 HZ.out
    go_wp2_with (first
      | (refine wpList_load_want (by rfl) 84 _ (by rfl) _ _ (by rfl) _ _ (DB.nd HZ.out) Tryz.underlying84 rfl (by kernel_rfl) ?_)
      | (refine wpList_load_want (by rfl) 162 _ (by rfl) _ _ (by rfl) _ _ HZ.out.at0 Tryz.underlying162 rfl (by kernel_rfl) ?_)
      | (go_at_call 166;refine (HB1.out _ HB.out).mono ?_;rintro e w1 ⟨rfl,hb⟩;replace HB:Hid (Below w.heap.size w w1):=Below.on HB.out hb;replace HX:Hid (BoxR w1 X [.slice a len cap,.int .i64 now]):=HX.out.below hb;replace HZ:Hid (BoxR w1 (X+1) (drV x y n)):=HZ.out.below hb;replace t0:w1.cell? ⟨X,0,none⟩=some (.slice a len cap):=HX.out.at0 0 _ rfl;replace t1:w1.cell? ⟨X,1,none⟩=some (.int .i64 now):=HX.out.at0 1 _ rfl;replace e19:=DB.c19 HZ.out;replace e20:=DB.c20 HZ.out;replace e21:=DB.c21 HZ.out;replace e22:=DB.c22 HZ.out;replace e24:=DB.c24 HZ.out;clear hb)
      | (go_at_call 167;refine (HB2.out _ HB.out).mono ?_;rintro e w1 ⟨rfl,hb⟩;replace HB:Hid (Below w.heap.size w w1):=Below.on HB.out hb;replace HX:Hid (BoxR w1 X [.slice a len cap,.int .i64 now]):=HX.out.below hb;replace HZ:Hid (BoxR w1 (X+1) (drV x y n)):=HZ.out.below hb;replace t0:w1.cell? ⟨X,0,none⟩=some (.slice a len cap):=HX.out.at0 0 _ rfl;replace t1:w1.cell? ⟨X,1,none⟩=some (.int .i64 now):=HX.out.at0 1 _ rfl;replace e19:=DB.c19 HZ.out;replace e20:=DB.c20 HZ.out;replace e21:=DB.c21 HZ.out;replace e22:=DB.c22 HZ.out;replace e24:=DB.c24 HZ.out;clear hb))
    go_ret
    exact ⟨ret_boolW (by rw [HE.out];first | done | simp),HB.out⟩
  cases c5:(n==1)
  · rw [c5] at HE
    cases up
    · skip
      have HX:Hid (BoxR ((w.alloc (.cells #[.slice a len cap,.int .i64 now] 35)).alloc (.cells (drV x y n).toArray 162)) w.heap.size [.slice a len cap,.int .i64 now]):=(boxR_new w [.slice a len cap,.int .i64 now] 35).below (bel_alloc _ _)
      have HZ:Hid (BoxR ((w.alloc (.cells #[.slice a len cap,.int .i64 now] 35)).alloc (.cells (drV x y n).toArray 162)) (w.heap.size+1) (drV x y n)):=(by
        have h:=boxR_new (w.alloc (.cells #[.slice a len cap,.int .i64 now] 35)) (drV x y n) 162
        simp only [World.size_alloc] at h
        exact h)
      have HB:Hid (Below w.heap.size w ((w.alloc (.cells #[.slice a len cap,.int .i64 now] 35)).alloc (.cells (drV x y n).toArray 162))):=bl2T _ _ _
      go_enter Tryz.func118,Tryz.ntmps118
      go_upto_region 1 with fail
      generalize ((w.alloc (.cells #[.slice a len cap,.int .i64 now] 35)).alloc (.cells (drV x y n).toArray 162))=w0 at HX HZ HB ⊢
      obtain ⟨X,hX⟩:∃ X,X=w.heap.size:=⟨_,rfl⟩
      have HXw:Hid (X=w.heap.size):=hX
      rw [←hX] at HX HZ ⊢
      clear hX
      have t0:w0.cell? ⟨X,0,none⟩=some (.slice a len cap):=HX.out.at0 0 _ rfl
      have t1:w0.cell? ⟨X,1,none⟩=some (.int .i64 now):=HX.out.at0 1 _ rfl
      have e19:=DB.c19 HZ.out
      have e20:=DB.c20 HZ.out
      have e21:=DB.c21 HZ.out
      have e22:=DB.c22 HZ.out
      have e24:=DB.c24 HZ.out
      go_wp2_with (first
        | (refine wpList_load_want (by rfl) 84 _ (by rfl) _ _ (by rfl) _ _ (DB.nd HZ.out) Tryz.underlying84 rfl (by kernel_rfl) ?_)
        | (refine wpList_load_want (by rfl) 162 _ (by rfl) _ _ (by rfl) _ _ HZ.out.at0 Tryz.underlying162 rfl (by kernel_rfl) ?_)
        | (go_at_call 166;refine (HB1.out _ HB.out).mono ?_;rintro e w1 ⟨rfl,hb⟩;replace HB:Hid (Below w.heap.size w w1):=Below.on HB.out hb;replace HX:Hid (BoxR w1 X [.slice a len cap,.int .i64 now]):=HX.out.below hb;replace HZ:Hid (BoxR w1 (X+1) (drV x y n)):=HZ.out.below hb;replace t0:w1.cell? ⟨X,0,none⟩=some (.slice a len cap):=HX.out.at0 0 _ rfl;replace t1:w1.cell? ⟨X,1,none⟩=some (.int .i64 now):=HX.out.at0 1 _ rfl;replace e19:=DB.c19 HZ.out;replace e20:=DB.c20 HZ.out;replace e21:=DB.c21 HZ.out;replace e22:=DB.c22 HZ.out;replace e24:=DB.c24 HZ.out;clear hb)
        | (go_at_call 167;refine (HB2.out _ HB.out).mono ?_;rintro e w1 ⟨rfl,hb⟩;replace HB:Hid (Below w.heap.size w w1):=Below.on HB.out hb;replace HX:Hid (BoxR w1 X [.slice a len cap,.int .i64 now]):=HX.out.below hb;replace HZ:Hid (BoxR w1 (X+1) (drV x y n)):=HZ.out.below hb;replace t0:w1.cell? ⟨X,0,none⟩=some (.slice a len cap):=HX.out.at0 0 _ rfl;replace t1:w1.cell? ⟨X,1,none⟩=some (.int .i64 now):=HX.out.at0 1 _ rfl;replace e19:=DB.c19 HZ.out;replace e20:=DB.c20 HZ.out;replace e21:=DB.c21 HZ.out;replace e22:=DB.c22 HZ.out;replace e24:=DB.c24 HZ.out;clear hb)
        | (go_at_call 168;refine (HU.out _ HB.out).mono ?_;rintro e w1 ⟨rfl,hb⟩;replace HB:Hid (Below w.heap.size w w1):=Below.on HB.out hb;replace HX:Hid (BoxR w1 X [.slice a len cap,.int .i64 now]):=HX.out.below hb;replace HZ:Hid (BoxR w1 (X+1) (drV x y n)):=HZ.out.below hb;replace t0:w1.cell? ⟨X,0,none⟩=some (.slice a len cap):=HX.out.at0 0 _ rfl;replace t1:w1.cell? ⟨X,1,none⟩=some (.int .i64 now):=HX.out.at0 1 _ rfl;replace e19:=DB.c19 HZ.out;replace e20:=DB.c20 HZ.out;replace e21:=DB.c21 HZ.out;replace e22:=DB.c22 HZ.out;replace e24:=DB.c24 HZ.out;clear hb))
      go_ret
      exact ⟨ret_boolW (by rw [HE.out];first | done | simp),HB.out⟩
    · skip
      have HX:Hid (BoxR ((w.alloc (.cells #[.slice a len cap,.int .i64 now] 35)).alloc (.cells (drV x y n).toArray 162)) w.heap.size [.slice a len cap,.int .i64 now]):=(boxR_new w [.slice a len cap,.int .i64 now] 35).below (bel_alloc _ _)
      have HZ:Hid (BoxR ((w.alloc (.cells #[.slice a len cap,.int .i64 now] 35)).alloc (.cells (drV x y n).toArray 162)) (w.heap.size+1) (drV x y n)):=(by
        have h:=boxR_new (w.alloc (.cells #[.slice a len cap,.int .i64 now] 35)) (drV x y n) 162
        simp only [World.size_alloc] at h
        exact h)
      have HB:Hid (Below w.heap.size w ((w.alloc (.cells #[.slice a len cap,.int .i64 now] 35)).alloc (.cells (drV x y n).toArray 162))):=bl2T _ _ _
      go_enter Tryz.func118,Tryz.ntmps118
      go_upto_region 1 with fail
      generalize ((w.alloc (.cells #[.slice a len cap,.int .i64 now] 35)).alloc (.cells (drV x y n).toArray 162))=w0 at HX HZ HB ⊢
      obtain ⟨X,hX⟩:∃ X,X=w.heap.size:=⟨_,rfl⟩
      have HXw:Hid (X=w.heap.size):=hX
      rw [←hX] at HX HZ ⊢
      clear hX
      have t0:w0.cell? ⟨X,0,none⟩=some (.slice a len cap):=HX.out.at0 0 _ rfl
      have t1:w0.cell? ⟨X,1,none⟩=some (.int .i64 now):=HX.out.at0 1 _ rfl
      have e19:=DB.c19 HZ.out
      have e20:=DB.c20 HZ.out
      have e21:=DB.c21 HZ.out
      have e22:=DB.c22 HZ.out
      have e24:=DB.c24 HZ.out
      go_wp2_with (first
        | (refine wpList_load_want (by rfl) 84 _ (by rfl) _ _ (by rfl) _ _ (DB.nd HZ.out) Tryz.underlying84 rfl (by kernel_rfl) ?_)
        | (refine wpList_load_want (by rfl) 162 _ (by rfl) _ _ (by rfl) _ _ HZ.out.at0 Tryz.underlying162 rfl (by kernel_rfl) ?_)
        | (go_at_call 166;refine (HB1.out _ HB.out).mono ?_;rintro e w1 ⟨rfl,hb⟩;replace HB:Hid (Below w.heap.size w w1):=Below.on HB.out hb;replace HX:Hid (BoxR w1 X [.slice a len cap,.int .i64 now]):=HX.out.below hb;replace HZ:Hid (BoxR w1 (X+1) (drV x y n)):=HZ.out.below hb;replace t0:w1.cell? ⟨X,0,none⟩=some (.slice a len cap):=HX.out.at0 0 _ rfl;replace t1:w1.cell? ⟨X,1,none⟩=some (.int .i64 now):=HX.out.at0 1 _ rfl;replace e19:=DB.c19 HZ.out;replace e20:=DB.c20 HZ.out;replace e21:=DB.c21 HZ.out;replace e22:=DB.c22 HZ.out;replace e24:=DB.c24 HZ.out;clear hb)
        | (go_at_call 167;refine (HB2.out _ HB.out).mono ?_;rintro e w1 ⟨rfl,hb⟩;replace HB:Hid (Below w.heap.size w w1):=Below.on HB.out hb;replace HX:Hid (BoxR w1 X [.slice a len cap,.int .i64 now]):=HX.out.below hb;replace HZ:Hid (BoxR w1 (X+1) (drV x y n)):=HZ.out.below hb;replace t0:w1.cell? ⟨X,0,none⟩=some (.slice a len cap):=HX.out.at0 0 _ rfl;replace t1:w1.cell? ⟨X,1,none⟩=some (.int .i64 now):=HX.out.at0 1 _ rfl;replace e19:=DB.c19 HZ.out;replace e20:=DB.c20 HZ.out;replace e21:=DB.c21 HZ.out;replace e22:=DB.c22 HZ.out;replace e24:=DB.c24 HZ.out;clear hb)
        | (go_at_call 168;refine (HU.out _ HB.out).mono ?_;rintro e w1 ⟨rfl,hb⟩;replace HB:Hid (Below w.heap.size w w1):=Below.on HB.out hb;replace HX:Hid (BoxR w1 X [.slice a len cap,.int .i64 now]):=HX.out.below hb;replace HZ:Hid (BoxR w1 (X+1) (drV x y n)):=HZ.out.below hb;replace t0:w1.cell? ⟨X,0,none⟩=some (.slice a len cap):=HX.out.at0 0 _ rfl;replace t1:w1.cell? ⟨X,1,none⟩=some (.int .i64 now):=HX.out.at0 1 _ rfl;replace e19:=DB.c19 HZ.out;replace e20:=DB.c20 HZ.out;replace e21:=DB.c21 HZ.out;replace e22:=DB.c22 HZ.out;replace e24:=DB.c24 HZ.out;clear hb))
      go_ret
      exact ⟨ret_boolW (by rw [HE.out];first | done | simp),HB.out⟩
  · rw [c5] at HE
    have HX:Hid (BoxR ((w.alloc (.cells #[.slice a len cap,.int .i64 now] 35)).alloc (.cells (drV x y n).toArray 162)) w.heap.size [.slice a len cap,.int .i64 now]):=(boxR_new w [.slice a len cap,.int .i64 now] 35).below (bel_alloc _ _)
    have HZ:Hid (BoxR ((w.alloc (.cells #[.slice a len cap,.int .i64 now] 35)).alloc (.cells (drV x y n).toArray 162)) (w.heap.size+1) (drV x y n)):=(by
      have h:=boxR_new (w.alloc (.cells #[.slice a len cap,.int .i64 now] 35)) (drV x y n) 162
      simp only [World.size_alloc] at h
      exact h)
    have HB:Hid (Below w.heap.size w ((w.alloc (.cells #[.slice a len cap,.int .i64 now] 35)).alloc (.cells (drV x y n).toArray 162))):=bl2T _ _ _
    go_enter Tryz.func118,Tryz.ntmps118
    go_upto_region 1 with fail
    generalize ((w.alloc (.cells #[.slice a len cap,.int .i64 now] 35)).alloc (.cells (drV x y n).toArray 162))=w0 at HX HZ HB ⊢
    obtain ⟨X,hX⟩:∃ X,X=w.heap.size:=⟨_,rfl⟩
    have HXw:Hid (X=w.heap.size):=hX
    rw [←hX] at HX HZ ⊢
    clear hX
    have t0:w0.cell? ⟨X,0,none⟩=some (.slice a len cap):=HX.out.at0 0 _ rfl
    have t1:w0.cell? ⟨X,1,none⟩=some (.int .i64 now):=HX.out.at0 1 _ rfl
    have e19:=DB.c19 HZ.out
    have e20:=DB.c20 HZ.out
    have e21:=DB.c21 HZ.out
    have e22:=DB.c22 HZ.out
    have e24:=DB.c24 HZ.out
    go_wp2_with (first
      | (refine wpList_load_want (by rfl) 84 _ (by rfl) _ _ (by rfl) _ _ (DB.nd HZ.out) Tryz.underlying84 rfl (by kernel_rfl) ?_)
      | (refine wpList_load_want (by rfl) 162 _ (by rfl) _ _ (by rfl) _ _ HZ.out.at0 Tryz.underlying162 rfl (by kernel_rfl) ?_)
      | (go_at_call 166;refine (HB1.out _ HB.out).mono ?_;rintro e w1 ⟨rfl,hb⟩;replace HB:Hid (Below w.heap.size w w1):=Below.on HB.out hb;replace HX:Hid (BoxR w1 X [.slice a len cap,.int .i64 now]):=HX.out.below hb;replace HZ:Hid (BoxR w1 (X+1) (drV x y n)):=HZ.out.below hb;replace t0:w1.cell? ⟨X,0,none⟩=some (.slice a len cap):=HX.out.at0 0 _ rfl;replace t1:w1.cell? ⟨X,1,none⟩=some (.int .i64 now):=HX.out.at0 1 _ rfl;replace e19:=DB.c19 HZ.out;replace e20:=DB.c20 HZ.out;replace e21:=DB.c21 HZ.out;replace e22:=DB.c22 HZ.out;replace e24:=DB.c24 HZ.out;clear hb)
      | (go_at_call 167;refine (HB2.out _ HB.out).mono ?_;rintro e w1 ⟨rfl,hb⟩;replace HB:Hid (Below w.heap.size w w1):=Below.on HB.out hb;replace HX:Hid (BoxR w1 X [.slice a len cap,.int .i64 now]):=HX.out.below hb;replace HZ:Hid (BoxR w1 (X+1) (drV x y n)):=HZ.out.below hb;replace t0:w1.cell? ⟨X,0,none⟩=some (.slice a len cap):=HX.out.at0 0 _ rfl;replace t1:w1.cell? ⟨X,1,none⟩=some (.int .i64 now):=HX.out.at0 1 _ rfl;replace e19:=DB.c19 HZ.out;replace e20:=DB.c20 HZ.out;replace e21:=DB.c21 HZ.out;replace e22:=DB.c22 HZ.out;replace e24:=DB.c24 HZ.out;clear hb)
      | (go_at_call 168;refine (HU.out _ HB.out).mono ?_;rintro e w1 ⟨rfl,hb⟩;replace HB:Hid (Below w.heap.size w w1):=Below.on HB.out hb;replace HX:Hid (BoxR w1 X [.slice a len cap,.int .i64 now]):=HX.out.below hb;replace HZ:Hid (BoxR w1 (X+1) (drV x y n)):=HZ.out.below hb;replace t0:w1.cell? ⟨X,0,none⟩=some (.slice a len cap):=HX.out.at0 0 _ rfl;replace t1:w1.cell? ⟨X,1,none⟩=some (.int .i64 now):=HX.out.at0 1 _ rfl;replace e19:=DB.c19 HZ.out;replace e20:=DB.c20 HZ.out;replace e21:=DB.c21 HZ.out;replace e22:=DB.c22 HZ.out;replace e24:=DB.c24 HZ.out;clear hb))
    go_ret
    exact ⟨ret_boolW (by rw [HE.out];first | done | simp),HB.out⟩
end Go.Proofs.YtabfdidnjibdeaaGreatDoor
