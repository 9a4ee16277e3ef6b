/- Laid together: TrF. -/
import Derived.Test.YtabfdidnjibdeaaGreatDoorBR14
namespace Go.Proofs.YtabfdidnjibdeaaGreatDoor
open Go.RowKit Go.PlainAid Go.Deep
set_option linter.unusedVariables false
theorem dir_same0 {l:List Nd}(hup:((ndAt l 0).up==1)=true)(h1:diB l 1=true):dirB l 0=(ndAt l 0).dirI l (((0:Nat):Int)+1):=by
  have hu:(ndAt l 0).up=1:=by simpa using hup
  have hn:((((0:Nat):Int)+1)==1)=true:=by decide
  unfold dirB Nd.dirI
  rw [dB_is,hn,Bool.true_or]
  have e:(diB l (ndAt l 0).up&&dirU l 0 (ndAt l 0).up)=true:=by rw [hu,h1];rfl
  rw [e]
  generalize (ndAt l 0).D.B=p
  generalize ((ndAt l 0).sh||(ndAt l 0).D.E)=q
  generalize ((ndAt l 0).bo.toList==[])=r
  generalize ((ndAt l 0).li==1)=s
  generalize nsB l (ndAt l 0).ns=t
  cases p<;>cases q<;>cases r<;>cases s<;>cases t<;>rfl
theorem dir_sameS {l:List Nd}{d:Nat}(hd:0<d)(hr:rtB l 13 ((d:Int)+1)=true):dirB l d=(ndAt l d).dirI l ((d:Int)+1):=by
  have hn:(((d:Int)+1)==1)=false:=by rw [beq_eq_false_iff_ne];omega
  unfold dirB Nd.dirI
  rw [dB_is,hn,Bool.false_or,dirU_pos hd,hr,Bool.and_true]
  generalize (ndAt l d).D.B=p
  generalize ((ndAt l d).sh||(ndAt l d).D.E)=q
  generalize ((ndAt l d).bo.toList==[])=r
  generalize ((ndAt l d).li==1)=s
  generalize nsB l (ndAt l d).ns=t
  cases p<;>cases q<;>cases r<;>cases s<;>cases t<;>rfl
theorem di_of {l:List Nd}{d:Nat}(hd:d<l.length)(hk:((ndAt l d).k==1)=true):diB l ((d:Int)+1)=true:=by
  have hr:inR 1 l.length ((d:Int)+1)=true:=inR_yes (by omega) (by omega)
  have hk1:(ndAt l d).k=1:=by simpa using hk
  have ht:thB l ((d:Int)+1)=true:=by rw [thB_in hr,hk1];rfl
  rw [diB_in ht,hk1]
  rfl
theorem ri_13 {l:List Nd}(hl:1≤l.length)(h12:l.length≤12)(h1:diB l 1=true){d:Nat}(hd:d<l.length)(hk:((ndAt l d).k==1)=true):riB l l.length ((d:Int)+1) (ndAt l d).up=rtB l 13 ((d:Int)+1):=by
  have h:=ri_rt h1 l.length ((d:Int)+1) (di_of hd hk)
  rw [at_succ] at h
  rw [h,rt_len hl h12]
theorem tree_core {l:List Nd}{now:Int}(hl:1≤l.length)(h12:l.length≤12)(hn:inR 0 1000000 now=true)(hk:((ndAt l 0).k==1)=true) :
    ((ndAt l 0).up==1&&(nodT l now l.length&&allR l l.length l.length))=treeT l now l.length:=by
  have h1:diB l 1=true:=di_one hl hk
  have hnow:now≤1000000:=(inR_iff.1 hn).2
  rw [Bool.eq_iff_iff]
  constructor
  · intro h
    simp only [Bool.and_eq_true] at h
    obtain ⟨hu,hT,hA⟩:=h
    have hN:=noNs_i hT
    refine treeT_of (fun d hd=>?_)
    rw [←node_same hnow hN d (fun hkd=>?_)]
    · exact nodT_at hT d hd
    · by_cases hz : d = 0
      · subst hz;exact dir_same0 hu h1
      · exact dir_sameS (by omega) (by rw [←ri_13 hl h12 h1 hd hkd];exact allR_at hA d hd hkd)
  · intro h
    have hN:=noNs_s h
    have hdir:∀ d,d<l.length→((ndAt l d).k==1)=true→dirB l d=true:=fun d hd hkd=>by
      have h2:=treeT_at h d hd
      have hk0:((ndAt l d).k==0)=false:=by
        have:(ndAt l d).k=1:=by simpa using hkd
        rw [this];rfl
      rw [hk0] at h2
      simp only [Bool.false_eq_true,if_false,nodeB,kindB,hkd,if_true,Bool.and_eq_true] at h2
      exact h2.2.2.2.2.2.2.2
    have hu:((ndAt l 0).up==1)=true:=by
      have h2:=hdir 0 (by omega) hk
      simp only [dirB,Bool.and_eq_true] at h2
      exact h2.2.2.2.2.2.2
    have hr:∀ d,0<d→d<l.length→((ndAt l d).k==1)=true→rtB l 13 ((d:Int)+1)=true:=fun d h0 hd hkd=>by
      have h2:=hdir d hd hkd
      simp only [dirB,Bool.and_eq_true] at h2
      have h3:=h2.2.2.2.2.2.2
      rw [dirU_pos h0,Bool.and_eq_true] at h3
      exact h3.2
    simp only [Bool.and_eq_true]
    refine ⟨hu,nodT_of (fun d hd=>?_),allR_of (fun d hd hkd=>?_)⟩
    · rw [node_same hnow hN d (fun hkd => ?_)]
      · exact treeT_at h d hd
      · by_cases hz : d = 0
        · subst hz;exact dir_same0 hu h1
        · exact dir_sameS (by omega) (hr d (by omega) hd hkd)
    · by_cases hz : d = 0
      · subst hz
        obtain ⟨f,hf⟩:∃ f,l.length=f+1:=⟨l.length-1,by omega⟩
        rw [hf]
        have e:((((0:Nat):Int)+1)==1)=true:=by decide
        simp only [riB,e,Bool.true_or]
      · rw [ri_13 hl h12 h1 hd hkd]
        exact hr d (by omega) hd hkd
theorem tree_same (l:List Nd)(now:Int):treeI l now=treeB l now:=by
  unfold treeI treeB
  by_cases hl:1≤l.length
  · by_cases h12 : l.length ≤ 12
    · cases hn : inR 0 1000000 now
      · simp
      · cases hk : ((ndAt l 0).k == 1)
        · simp
        · simp only [hl, h12, decide_true, Bool.true_and]
          exact tree_core hl h12 hn hk
    · simp [h12]
  · simp [hl]
end Go.Proofs.YtabfdidnjibdeaaGreatDoor
