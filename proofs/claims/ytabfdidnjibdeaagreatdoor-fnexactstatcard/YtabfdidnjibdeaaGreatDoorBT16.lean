/- Laid together: TrG, TrN, PathM. -/
import Derived.Test.YtabfdidnjibdeaaGreatDoorBT13
import Derived.Test.YtabfdidnjibdeaaGreatDoorBT15
/- What a right tree has: little facts. -/
namespace Go.Proofs.YtabfdidnjibdeaaGreatDoor
open Go.RowKit Go.PlainAid Go.Deep
set_option linter.unusedVariables false
theorem tree_len {l:List Nd} {now:Int} (h:treeB l now=true):l.length≤12:=by
  simp only [treeB,Bool.and_eq_true,decide_eq_true_eq] at h
  exact h.2.1
theorem tree_all {l:List Nd} {now:Int} (h:treeB l now=true):treeT l now l.length=true:=by
  simp only [treeB,Bool.and_eq_true,decide_eq_true_eq] at h
  exact h.2.2.2.2
theorem tree_one {l:List Nd} {now:Int} (h:treeB l now=true):1≤l.length:=by
  simp only [treeB,Bool.and_eq_true,decide_eq_true_eq] at h
  exact h.1
end Go.Proofs.YtabfdidnjibdeaaGreatDoor
/- A node of a right tree. -/
namespace Go.Proofs.YtabfdidnjibdeaaGreatDoor
open Go.RowKit Go.PlainAid Go.Deep
set_option linter.unusedVariables false
theorem treeT_node {l:List Nd} {now:Int} {k:Nat} (hk:((ndAt l k).k == 0)=false):∀ n,treeT l now n=true→k < n→nodeB l now k=true
  | 0,_,h => by omega
  | n + 1,ht,h => by
    simp only [treeT,Bool.and_eq_true] at ht
    by_cases e:k=n
    · subst e
      have h2:=ht.2
      simp only [hk,Bool.false_eq_true,if_false] at h2
      exact h2
    · exact treeT_node hk n ht.1 (by omega)
theorem node_is {l:List Nd} {now:Int} {k:Nat} (ht:treeB l now=true) (hth:thB l ((k:Int) + 1)=true):nodeB l now k=true:=by
  have hn:=thB_num hth
  rw [thB_in hn] at hth
  have hin:=inR_iff.1 hn
  exact treeT_node (by simpa using hth) _ (tree_all ht) (by omega)
theorem node_facts {l:List Nd} {now:Int} {k:Nat} (h:nodeB l now k=true):(0≤(ndAt l k).ex∧(ndAt l k).ex≤7)∧aclB (ndAt l k).A.u (ndAt l k).A.g (ndAt l k).A.o (ndAt l k).A.us (ndAt l k).A.gs (ndAt l k).A.r (ndAt l k).A.m=true∧inR 0 9999 (ndAt l k).ow=true∧inR 0 9999 (ndAt l k).gr=true:=by
  simp only [nodeB,Bool.and_eq_true] at h
  exact ⟨inR_iff.1 h.2.2.1,h.2.2.2.1,h.1,h.2.1⟩
end Go.Proofs.YtabfdidnjibdeaaGreatDoor
/- The path of a directory: mathematics. -/
namespace Go.Proofs.YtabfdidnjibdeaaGreatDoor
open Go.RowKit Go.PlainAid Go.Deep
set_option linter.unusedVariables false
def nfT (ns:List (ByteArray × Int)) (n:Int):Nat→ByteArray
  | 0 => ⟨#[]⟩
  | k + 1 => if hasE ns n k then nfT ns n k else if noAt ns k == n then nmAt ns k else ⟨#[]⟩
def stLen:Value→Nat
  | .string s => s.size
  | _ => 0
def upN (l:List Nd) (n:Int):Int:=(ndAt l (n - 1).toNat).up
def pNm (l:List Nd) (n:Int):ByteArray:=nfT (ndAt l (upN l n - 1).toNat).ns n (ndAt l (upN l n - 1).toNat).ns.length
def ptG (l:List Nd):Nat→Int→ByteArray→ByteArray
  | 0,_,p => p
  | f + 1,n,p => if n == 1 then p else ptG l f (upN l n) (⟨#[47]⟩ ++ pNm l n ++ p)
def orP (p:ByteArray):ByteArray:=if p.toList == [] then ⟨#[47]⟩ else p
def ptO (l:List Nd) (now n:Int):ByteArray:=if treeB l now && diB l n then orP (ptG l 13 n ⟨#[]⟩) else ⟨#[]⟩
theorem dir_is {l:List Nd} {now:Int} {k:Nat} (ht:treeB l now=true) (hd:diB l ((k:Int) + 1)=true):dirB l k=true:=by
  have h:=node_is ht (diB_th hd)
  have hk:=diB_in (diB_th hd)
  rw [hd] at hk
  simp only [nodeB,Bool.and_eq_true] at h
  have h2:=h.2.2.2.2.2.2.2
  simp only [kindB,← hk,if_true] at h2
  exact h2
structure DirF (l:List Nd) (k:Nat):Prop where
  ns:nsB l (ndAt l k).ns=true
  up:diB l (ndAt l k).up=true
  du:dirU l k (ndAt l k).up=true
theorem dir_facts {l:List Nd} {now:Int} {k:Nat} (ht:treeB l now=true) (hd:diB l ((k:Int) + 1)=true):DirF l k:=by
  have h:=dir_is ht hd
  simp only [dirB,Bool.and_eq_true] at h
  exact ⟨h.2.2.2.2.1,h.2.2.2.2.2.1,h.2.2.2.2.2.2⟩
theorem nsB_T {l:List Nd} {ns:List (ByteArray × Int)} (h:nsB l ns=true):ns.length≤6∧nsT l ns ns.length=true:=by
  simp only [nsB,Bool.and_eq_true,decide_eq_true_eq] at h
  exact h
/-- On the way up: the number is of a directory, the steps left are enough, the text is short. -/
structure PtI (l:List Nd) (r:ByteArray) (f:Nat) (n:Int) (p:ByteArray):Prop where
  di:diB l n=true
  rt:rtB l f n=true
  le:f≤13
  sz:p.size≤13 * (13 - f)
  eq:r=ptG l f n p
end Go.Proofs.YtabfdidnjibdeaaGreatDoor
