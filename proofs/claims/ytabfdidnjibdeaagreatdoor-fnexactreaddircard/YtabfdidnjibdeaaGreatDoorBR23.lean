/- Laid together: HasWalks, Which. -/
import Derived.Test.YtabfdidnjibdeaaGreatDoorBR10
import Derived.Test.YtabfdidnjibdeaaGreatDoorBR22
namespace Go.Proofs.YtabfdidnjibdeaaGreatDoor
open Go.RowKit Go.PlainAid
set_option linter.unusedVariables false
set_option maxHeartbeats 1000000 in
theorem sl02Has_any (h v:Nat)(h1:h≤65535)(h2:v≤65535)(w:World) :
    Calls Tryz.prog 136 #[.int .i64 h,.int .i64 v] w fun e w'=>e=.returned (.bool (hasB h v))∧w'=w:=by
  go_enter Tryz.func136,Tryz.ntmps136
  go_wp2
  go_loop [0,1] (fun x y=>∃ a b:Nat,a≤65535∧b≤65535∧x=.int .i64 a∧y=.int .i64 b∧Hid (hasB a b=hasB h v)) (fun _ y=>(intOf y).toNat)
  case atStart=>exact ⟨h,v,h1,h2,rfl,rfl,rfl⟩
  case round =>
    obtain ⟨a,b,ha,hb,rfl,rfl,he⟩:=hrel
    by_cases hz:b=0
    · subst hz
      have hy:Hid (hasB h v=true):=(he.out.symm.trans (hasB_zero a))
      go_wp2
      go_ret
      exact ⟨ret_boolW hy.out.symm,rfl⟩
    · have hp : 0 < (b : Int) := by omega
      clear hz
      by_cases hb1:b%2=1
      · have q1 : (b : Int) % 2 = 1 := by omega
        by_cases ha0:a%2=0
        · have hy : Hid (hasB h v = false) := (he.out.symm.trans (hasB_no ha0 hb1))
          have q2:(a:Int)%2=0:=by omega
          clear hb1 ha0
          go_wp2
          go_ret
          exact ⟨ret_boolW hy.out.symm,rfl⟩
        · have hy : Hid (hasB (a / 2) (b / 2) = hasB h v) := ((hasB_half (fun e => ha0 e.1)).symm.trans he.out)
          have q2:(a:Int)%2=1:=by omega
          clear hb1 ha0
          go_wp2
          go_round
          case rel=>exact ⟨a/2,b/2,by omega,by omega,by go_num,by go_num,hy⟩
          case measure=>simp [intOf];omega
      · have hy : Hid (hasB (a / 2) (b / 2) = hasB h v) := ((hasB_half (fun e => hb1 e.2)).symm.trans he.out)
        have q1:(b:Int)%2=0:=by omega
        clear hb1
        go_wp2
        go_round
        case rel=>exact ⟨a/2,b/2,by omega,by omega,by go_num,by go_num,hy⟩
        case measure=>simp [intOf];omega
theorem hasZ_def (h v:Int)(h0:inR 0 65535 h=true)(h1:inR 0 65535 v=true):hasZ h v=hasB h.toNat v.toNat:=by
  rw [inR_iff] at h0 h1
  simp [hasZ,h0,h1]
theorem and_i64 (a b:Nat)(h1:a≤65535)(h2:b≤65535):bits .and .i64 (a:Int) (b:Int)=((a &&& b:Nat):Int):=i64_and_nat a b (by omega) (by omega)
set_option maxHeartbeats 1000000 in
theorem iHas_any (h v:Int)(w:World) :
    Calls Tryz.prog 176 #[.int .i64 h,.int .i64 v] w fun e w'=>e=.returned (.bool (hasZ h v))∧w'=w:=by
  cases e1:inR 0 65535 h
  · have hy : Hid (hasZ h v = false) := hasZ_off (fun e => by rw [inR_yes e.1 e.2] at e1; cases e1)
    go_enter Tryz.func176,Tryz.ntmps176
    go_wp2_with (go_at_call 218;refine (isSet_any _ _).mono ?_;rintro e w' ⟨rfl,rfl⟩)
    go_ret
    exact ⟨ret_boolW hy.out.symm,rfl⟩
  · cases e2 : inR 0 65535 v
    · have hy : Hid (hasZ h v = false) := hasZ_off2 (fun e => by rw [inR_yes e.1 e.2] at e2; cases e2)
      go_enter Tryz.func176,Tryz.ntmps176
      go_wp2_with (go_at_call 218;refine (isSet_any _ _).mono ?_;rintro e w' ⟨rfl,rfl⟩)
      go_ret
      exact ⟨ret_boolW hy.out.symm,rfl⟩
    · have hy : Hid (hasZ h v = hasB h.toNat v.toNat) := hasZ_def h v e1 e2
      obtain ⟨a,rfl⟩:=Int.eq_ofNat_of_zero_le (inR_iff.mp e1).1
      obtain ⟨b,rfl⟩:=Int.eq_ofNat_of_zero_le (inR_iff.mp e2).1
      have hab:=and_i64 a b (by have:=(inR_iff.mp e1).2;omega) (by have:=(inR_iff.mp e2).2;omega)
      have hz:Hid ((((a &&& b:Nat):Int)==(b:Int))=hasB a b):=(show (((a &&& b:Nat):Int)==(b:Int))=hasB a b by unfold hasB;rw [Bool.eq_iff_iff];simp only [beq_iff_eq];omega)
      go_enter Tryz.func176,Tryz.ntmps176
      go_wp2_with (go_at_call 218;refine (isSet_any _ _).mono ?_;rintro e w' ⟨rfl,rfl⟩)
      go_ret
      exact ⟨ret_boolW (hz.out.trans hy.out.symm),rfl⟩
end Go.Proofs.YtabfdidnjibdeaaGreatDoor
namespace Go.Proofs.YtabfdidnjibdeaaGreatDoor
open Go.RowKit Go.PlainAid Go.Deep
set_option linter.unusedVariables false
theorem prs_own1 (w:World)(x y:Int)(t:TypeId):Prs (some ⟨w.heap.size,0,none⟩) 1 [(x,y)] (w.alloc (.cells #[.int .i64 x,.int .i64 y] t)):=by
  obtain ⟨h0,h1⟩:=pair_new w (.int .i64 x) (.int .i64 y) t
  refine ⟨rfl,fun _=>⟨w.heap.size,0,rfl,by simp,fun i hi=>?_⟩⟩
  have:i=0:=by omega
  subst this
  exact ⟨h0,h1⟩
structure Box4 (w:World) (B:Nat) (v0 v1 v2 v3:Value):Prop where
  lt:B<w.heap.size
  c0:w.cell? ⟨B,0,none⟩=some v0
  c1:w.cell? ⟨B,1,none⟩=some v1
  c2:w.cell? ⟨B,2,none⟩=some v2
  c3:w.cell? ⟨B,3,none⟩=some v3
theorem Box4.below {w w':World}{B:Nat}{v0 v1 v2 v3:Value}(h:Box4 w B v0 v1 v2 v3)(hb:Below w.heap.size w w'):Box4 w' B v0 v1 v2 v3 :=
  ⟨Nat.lt_of_lt_of_le h.lt hb.size,(hb.cell (p:=⟨B,0,none⟩) h.lt).trans h.c0,(hb.cell (p:=⟨B,1,none⟩) h.lt).trans h.c1,(hb.cell (p:=⟨B,2,none⟩) h.lt).trans h.c2,(hb.cell (p:=⟨B,3,none⟩) h.lt).trans h.c3⟩
theorem box4_new (w:World)(v0 v1 v2 v3:Value)(t:TypeId):Box4 (w.alloc (.cells #[v0,v1,v2,v3] t)) w.heap.size v0 v1 v2 v3:=by
  have hb:(w.alloc (.cells #[v0,v1,v2,v3] t)).heap[w.heap.size]?=some (.cells #[v0,v1,v2,v3] t):=by
    rw [World.alloc]
    exact Array.getElem?_push_size
  refine ⟨by simp,?_,?_,?_,?_⟩<;>(simp only [World.cell?,hb];rfl)
def inTo (x:Bool) (P:Int→Bool) (l:List (Int × Int)):Nat→Bool
  | 0=>x
  | k+1=>inTo x P l k||P (idAt l k)
def allTo (x:Bool) (P:Int→Bool) (l:List (Int × Int)) (want:Int):Nat→Bool
  | 0=>x
  | k+1=>allTo x P l want k||(P (idAt l k)&&hasZ (btAt l k) want)
theorem inTo_cons (P:Int→Bool)(x y:Int)(l:List (Int × Int)):∀ k,inTo false P ((x,y) :: l) (k+1)=inTo (P x) P l k:=by
  intro k
  induction k with
  | zero=>simp [inTo,idAt]
  | succ k ih =>
    have e:idAt ((x,y) :: l) (k+1)=idAt l k:=rfl
    show (inTo false P ((x,y) :: l) (k+1)||P (idAt ((x,y) :: l) (k+1)))=(inTo (P x) P l k||P (idAt l k))
    rw [ih,e]
theorem allTo_cons (P:Int→Bool)(x y:Int)(l:List (Int × Int))(want:Int):∀ k,allTo false P ((x,y) :: l) want (k+1)=allTo (P x&&hasZ y want) P l want k:=by
  intro k
  induction k with
  | zero=>simp [allTo,idAt,btAt]
  | succ k ih =>
    have e:idAt ((x,y) :: l) (k+1)=idAt l k:=rfl
    have e2:btAt ((x,y) :: l) (k+1)=btAt l k:=rfl
    show (allTo false P ((x,y) :: l) want (k+1)||(P (idAt ((x,y) :: l) (k+1))&&hasZ (btAt ((x,y) :: l) (k+1)) want))=(allTo (P x&&hasZ y want) P l want k||(P (idAt l k)&&hasZ (btAt l k) want))
    rw [ih,e,e2]
theorem allTo_hit {P:Int→Bool}{l:List (Int × Int)}{want:Int}{k n:Nat}(h:k<n)(hk:(P (idAt l k)&&hasZ (btAt l k) want)=true):allTo false P l want n=true:=by
  induction n with
  | zero=>omega
  | succ n ih =>
    by_cases e:k=n
    · subst e;simp [allTo,hk]
    · simp [allTo,ih (by omega)]
def goC (all inn:Bool):Int:=if all then 3 else if inn then 4 else 5
def clsK (inn:Bool):Int:=if inn then 4 else 5
set_option maxRecDepth 100000 in
set_option maxHeartbeats 8000000 in
theorem groupOrOther_any (u g o:Int)(au:Option Addr)(lu cu:Nat)(ag:Option Addr)(lg cg:Nat)(r:Bool)(m:Int)(gs:List (Int × Int))(group:Int)(cu' cg':Int)(ca:Option Addr)(cl cc:Nat)(cr:Bool)(cf:Nat→Int)(want:Int)(w:World)(hg:Prs ag lg gs w)(hci:Ints ca cl cf w)(hl:lg≤1000) :
    Calls Tryz.prog 219 #[.agg #[.int .i64 u,.int .i64 g,.int .i64 o,.slice au lu cu,.slice ag lg cg,.bool r,.int .i64 m],.int .i64 group,.agg #[.int .i64 cu',.int .i64 cg',.slice ca cl cc,.bool cr],.int .i64 want] w fun e w'=>e=.returned (.int .i64 (goC (allTo false (inGB cu' cg' cl cf) ((group,g) :: gs) want (1+lg)) (inTo false (inGB cu' cg' cl cf) ((group,g) :: gs) (1+lg))))∧Below w.heap.size w w':=by
  have hin:Hid (∀ gid w',Below w.heap.size w w'→Calls Tryz.prog 200 #[.agg #[.int .i64 cu',.int .i64 cg',.slice ca cl cc,.bool cr],.int .i64 gid] w' fun e w''=>e=.returned (.bool (inGB cu' cg' cl cf gid))∧Below w'.heap.size w' w''):=(fun gid w' hb=>iInGroup_any cu' cg' ca cl cc cr gid cf w' (hci.below hb))
  have hcc:Hid (∀ w1 X Y,Y=w1.heap.size→X=(w1.alloc (.cells #[.int .i64 group,.int .i64 g] 180)).heap.size→Below w.heap.size w w1→Calls Tryz.prog 231 #[.slice (some ⟨X,0,none⟩) 2 2] ((w1.alloc (.cells #[.int .i64 group,.int .i64 g] 180)).alloc (.cells #[.slice (some ⟨Y,0,none⟩) 1 1,.slice ag lg cg] 79)) fun e w''=>∃ a c,e=.returned (.slice a (1+lg) c)∧1+lg≤c∧Own a (1+lg) ([(group,g)]++gs) w''∧(∀ Ad,a=some Ad→(w1.alloc (.cells #[.int .i64 group,.int .i64 g] 180)).heap.size≤Ad.block∧Ad.block<w''.heap.size)∧Below (w1.alloc (.cells #[.int .i64 group,.int .i64 g] 180)).heap.size (w1.alloc (.cells #[.int .i64 group,.int .i64 g] 180)) w''):=(fun w1 X Y hY hX hb=>by
    subst hY
    exact concat_two _ X hX _ 2 _ 1 1 [(group,g)] ag lg cg gs (by omega) (prs_own1 w1 group g _) (hg.below (Below.onA hb)))
  clear hg hci
  generalize inGB cu' cg' cl cf=P at hin ⊢
  obtain ⟨l,hl0⟩:∃ l,l=(group,g) :: gs:=⟨_,rfl⟩
  obtain ⟨n,hn0⟩:∃ n,n=1+lg:=⟨_,rfl⟩
  rw [←hl0,←hn0]
  have HL0:Hid (l=(group,g) :: gs):=hl0
  have HN0:Hid (n=1+lg):=hn0
  clear hl0 hn0
  go_enter Tryz.func219,Tryz.ntmps219
  go_wp2_with fail
  refine (hcc.out _ _ _ (by simp) (by simp) (bl3N _ _ _ _)).mono ?_
  rintro e w1 ⟨a,c,rfl,hcap,ho,_,hb⟩
  have hbW:Hid (Below w.heap.size w w1):=Below.on (Below.onA (bl3N _ _ _ _)) hb
  have eA:(w.alloc (.cells #[.int .i64 u,.int .i64 g,.int .i64 o,.slice au lu cu,.slice ag lg cg,.bool r,.int .i64 m] 81)).heap.size=w.heap.size+1:=by simp
  have hX:=(((box4_new (w.alloc (.cells #[.int .i64 u,.int .i64 g,.int .i64 o,.slice au lu cu,.slice ag lg cg,.bool r,.int .i64 m] 81)) (.int .i64 cu') (.int .i64 cg') (.slice ca cl cc) (.bool cr) 37).below (bel_alloc _ (.cells #[.int .i64 group,.int .i64 g] 180))).below (bel_alloc _ (.cells #[.int .i64 group,.int .i64 g] 180))).below hb
  rw [eA] at hX
  have HX:Hid (Box4 w1 (w.heap.size+1) (.int .i64 cu') (.int .i64 cg') (.slice ca cl cc) (.bool cr)):=hX
  have HO:Hid (Own a n l w1):=(by show Own a n l w1;rw [HL0.out,HN0.out];exact ho)
  have HA:Hid (∀ k,k<n→(P (idAt l k)&&hasZ (btAt l k) want)=true→allTo false P l want n=true):=(fun k hk h=>allTo_hit hk h)
  have hn2:n≤1001:=by have:=HN0.out;omega
  rw [←HN0.out] at hcap ⊢
  clear hb hcc ho hX eA
  go_wp2
  go_loopw [9,24] (fun s i wr=>∃ k:Nat,k≤n∧i=.int .i64 k∧s=.int .i64 (clsK (inTo false P l k))∧Hid (allTo false P l want k=false)∧Hid (Below w1.heap.size w1 wr)) (fun _ i _=>n-(intOf i).toNat)
  case atStart=>exact ⟨0,Nat.zero_le _,rfl,rfl,rfl,Below.refl _ _⟩
  case round =>
    obtain ⟨k,hk,rfl,rfl,hto,hB⟩:=hrel
    by_cases hlt:k<n
    · have hlt' : (k : Int) < (n : Int) := by omega
      obtain ⟨B,rfl,hBl,hp⟩:=HO.out.2 (by omega)
      have q:=(hp k hlt).1
      have c0:wr.cell? ⟨B,k*2,none⟩=some (.int .i64 (idAt l k)):=(hB.out.cell (p:=⟨B,k*2,none⟩) hBl).trans q.1
      have c1:wr.cell? ⟨B,k*2+1,none⟩=some (.int .i64 (btAt l k)):=(hB.out.cell (p:=⟨B,k*2+1,none⟩) hBl).trans q.2
      have hBA:=Below.onA (o:=.cells #[.int .i64 (idAt l k),.int .i64 (btAt l k)] 180) hB.out
      obtain ⟨xl,x0,x1,x2,x3⟩:=HX.out.below hB.out
      obtain ⟨n0,n1⟩:=pair_new wr (.int .i64 (idAt l k)) (.int .i64 (btAt l k)) 180
      have HBA:Hid (Below w1.heap.size w1 (wr.alloc (.cells #[.int .i64 (idAt l k),.int .i64 (btAt l k)] 180))):=hBA
      clear q hp hBA hB
      go_wp2_with fail
      refine (hin.out (idAt l k) _ (Below.on hbW.out HBA.out)).mono ?_
      rintro e w2 ⟨rfl,hb2⟩
      have m1:w2.cell? ⟨wr.heap.size,1,none⟩=some (.int .i64 (btAt l k)):=(hb2.cell (p:=⟨wr.heap.size,1,none⟩) (by simp)).trans n1
      have HB2:Hid (Below w1.heap.size w1 w2):=Below.on HBA.out hb2
      clear hb2 x0 x1 x2 x3 xl n0 n1 c0 c1 HBA
      cases hP:P (idAt l k)
      · have ei : Hid (inTo false P l (k + 1) = inTo false P l k) := (by show _ = _; simp [inTo, hP])
        have ea:Hid (allTo false P l want (k+1)=false):=(by show _=_;simp [allTo,hP,hto.out])
        clear hP hto HA
        go_wp2
        go_roundw
        case rel=>exact ⟨k+1,by omega,by go_num,by rw [ei.out],ea,HB2⟩
        case measure=>simp [intOf];omega
      · cases hH : hasZ (btAt l k) want
        · have ei : Hid (inTo false P l (k + 1) = true) := (by show _ = _; simp [inTo, hP])
          have ea:Hid (allTo false P l want (k+1)=false):=(by show _=_;simp [allTo,hP,hH,hto.out])
          clear hP hto HA
          go_wp2_with (go_at_call 176;refine (iHas_any _ _ _).mono ?_;rintro e w3 ⟨rfl,rfl⟩)
          go_roundw
          case rel=>exact ⟨k+1,by omega,by go_num,by rw [ei.out];rfl,ea,HB2⟩
          case measure=>simp [intOf];omega
        · have hy : Hid (allTo false P l want n = true) := HA.out k hlt (by rw [hP, hH]; rfl)
          clear hP hto HA
          go_wp2_with (go_at_call 176;refine (iHas_any _ _ _).mono ?_;rintro e w3 ⟨rfl,rfl⟩)
          go_ret
          exact ⟨ret_intM (by rw [goC,hy.out];rfl),Below.on hbW.out HB2.out⟩
    · have : k = n := by omega
      subst this
      have hy:Hid (goC (allTo false P l want k) (inTo false P l k)=clsK (inTo false P l k)):=(by show _=_;rw [goC,hto.out];rfl)
      go_wp2
      go_ret
      exact ⟨ret_intM hy.out.symm,Below.on hbW.out hB.out⟩
end Go.Proofs.YtabfdidnjibdeaaGreatDoor
